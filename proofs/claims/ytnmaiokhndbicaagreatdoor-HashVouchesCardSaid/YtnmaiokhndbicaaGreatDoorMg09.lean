/- Texts of one proof, put together: HhJ, HhK, HhL, HhQ, HhO, HhP, HhV. -/
import Derived.Test.YtnmaiokhndbicaaGreatDoorMg06
import Derived.Deep.DeepCutAuto
import Derived.Test.YtnmaiokhndbicaaGreatDoorMg08
import Derived.Test.YtnmaiokhndbicaaGreatDoorMg03
import Derived.Test.YtnmaiokhndbicaaGreatDoorMg05
section
/- Walks of package treehash: vouch. -/
set_option linter.unusedSimpArgs false
set_option linter.unusedVariables false
namespace Go.Proofs.YtnmaiokhndbicaaGreatDoor
open Go.RowKit Go.Maps

/-- What a child says of a node: the Hash of the List of vouch, the node's Enc, its Hash, and a term. -/
def VouchQ (enc hash : Int) (es : List Nd) (t : Int) : Prop := ∃ a b, Is es a ⟨2, 0, vouchS, []⟩ ∧ HashL [a, enc, hash, b] es t
/-- What vouch leaves. -/
def VouchPost (w0 : World) (S U : Nat → Prop) (w : World) (hb : Nat) (p tv : Value) (ts : List Rt.TN) (ds : List Nd) (n : Nat) (enc hash : Int) (e : Ending) (w' : World) : Prop :=
  ∃ (r : List Nd) (t : Int), e = .returned (.tuple #[.int .i64 t, .int .i64 0]) ∧ Hs w0 S U w' hb p tv ts (ds ++ r) ∧ r.length ≤ n ∧ VouchQ enc hash (ds ++ r) t ∧ Turn (Wk S hb) w w'
/-- What the region ahead of vouch's tests reads. -/
def HoldV (hb tb o : Nat) (tv : Value) (d : Rt.TN) (lv : Value) (w' : World) : Prop :=
  w'.cell? ⟨hb, 1, none⟩ = some tv ∧ w'.cell? ⟨tb, o, none⟩ = some (.int .i64 d.kd) ∧ w'.cell? ⟨tb, o + 1, none⟩ = some (.int .i64 d.id) ∧ w'.cell? ⟨tb, o + 2, none⟩ = some (.int .i64 d.enc) ∧
  w'.cell? ⟨tb, o + 3, none⟩ = some (.int .i64 d.sig) ∧ w'.cell? ⟨tb, o + 4, none⟩ = some (.int .i64 d.hash) ∧ w'.cell? ⟨tb, o + 5, none⟩ = some lv
theorem HoldV.kept {hb tb o : Nat} {tv lv : Value} {d : Rt.TN} {w w' : World} (h : HoldV hb tb o tv d lv w) (k : Kept w w') : HoldV hb tb o tv d lv w' := by
  obtain ⟨h0, h1, h2, h3, h4, h5, h6⟩ := h
  exact ⟨(k.cell (p := ⟨hb, 1, none⟩) (World.block_lt_of_cell? _ _ h0)).trans h0, (k.cell (p := ⟨tb, o, none⟩) (World.block_lt_of_cell? _ _ h1)).trans h1, (k.cell (p := ⟨tb, o + 1, none⟩) (World.block_lt_of_cell? _ _ h2)).trans h2, (k.cell (p := ⟨tb, o + 2, none⟩) (World.block_lt_of_cell? _ _ h3)).trans h3,
    (k.cell (p := ⟨tb, o + 3, none⟩) (World.block_lt_of_cell? _ _ h4)).trans h4, (k.cell (p := ⟨tb, o + 4, none⟩) (World.block_lt_of_cell? _ _ h5)).trans h5, (k.cell (p := ⟨tb, o + 5, none⟩) (World.block_lt_of_cell? _ _ h6)).trans h6⟩
/-- Behind that region: the node and the array lie in blocks of their own. -/
def CutV (w : World) (d : Rt.TN) (lv u v : Value) (wx : World) : Prop :=
  ∃ (b1 b2 : Nat) (f : Nat → Bool), u = .pointer (some ⟨b1, 0, none⟩) ∧ v = .pointer (some ⟨b2, 0, none⟩) ∧ Blk wx b1 29 (tnCells d lv) ∧ Blk wx b2 58 (offL f) ∧ w.heap.size ≤ b1 ∧ w.heap.size ≤ b2 ∧ Kept w wx

theorem cN_le {k : Nat} (h : k ≤ 5) : cN k ≤ 1680 := by
  have : k = 0 ∨ k = 1 ∨ k = 2 ∨ k = 3 ∨ k = 4 ∨ k = 5 := by omega
  rcases this with rfl | rfl | rfl | rfl | rfl | rfl <;> decide
/-- What the last region of vouch reads: the node's Enc and Hash, the array. -/
def HoldU (b1 b2 : Nat) (d : Rt.TN) (L : List Value) (w' : World) : Prop := w'.cell? ⟨b1, 2, none⟩ = some (.int .i64 d.enc) ∧ w'.cell? ⟨b1, 4, none⟩ = some (.int .i64 d.hash) ∧ w'.rangeAt b2 0 L
theorem holdU {w2 w4 : World} {S : Nat → Prop} {hb b1 b2 : Nat} {d : Rt.TN} {lv : Value} {L : List Value} (bA : Blk w2 b1 29 (tnCells d lv)) (bB : Blk w2 b2 58 L) (g1 : S b1 ∧ b1 ≠ hb) (g2 : S b2 ∧ b2 ≠ hb) (t : Turn (Wk S hb) w2 w4) : HoldU b1 b2 d L w4 := by
  have a4 := bA.turn t (fun c => c.elim (fun c => c g1.1) (fun c => g1.2 c))
  have b4 := bB.turn t (fun c => c.elim (fun c => c g2.1) (fun c => g2.2 c))
  refine ⟨a4.cell 2, a4.cell 4, fun j v hv => ?_⟩
  rw [Nat.zero_add]
  exact (b4.cell j).trans hv
theorem HoldU.kept {b1 b2 : Nat} {d : Rt.TN} {L : List Value} {w w' : World} (h : HoldU b1 b2 d L w) (k : Kept w w') : HoldU b1 b2 d L w' := by
  obtain ⟨h0, h1, h2⟩ := h
  exact ⟨(k.cell (p := ⟨b1, 2, none⟩) (World.block_lt_of_cell? _ _ h0)).trans h0, (k.cell (p := ⟨b1, 4, none⟩) (World.block_lt_of_cell? _ _ h1)).trans h1, fun j v hv => (k.cell (p := ⟨b2, 0 + j, none⟩) (World.block_lt_of_cell? _ _ (h2 j v hv))).trans (h2 j v hv)⟩
theorem Blk.ne {w : World} {g g' : Nat} {e e' : TypeId} {xs ys : List Value} (h : Blk w g e xs) (h' : Blk w g' e' ys) (hne : e ≠ e') : g ≠ g' := fun c => by
  unfold Blk at h h'
  rw [c, h'] at h
  simp only [Option.some.injEq, Obj.cells.injEq] at h
  exact hne h.2.1.symm
theorem ones6a (d : Rt.TN) (la : Option Addr) (ln lc : Nat) : (#[Value.int .i64 d.kd, .int .i64 d.id, .int .i64 d.enc, .int .i64 d.sig, .int .i64 d.hash, .slice la ln lc].all fun x => x.oneCell') = true := by simp [Value.oneCell']

set_option maxHeartbeats 16000000 in
set_option maxRecDepth 100000 in
theorem hvouch_ok {w0 : World} {S U : Nat → Prop} {w : World} {hb : Nat} {p tv : Value} {ts : List Rt.TN} {ds : List Nd} {n m x c o : Nat} (hn : FewTree ts n) (hT : TabsM w0) (hm : TermsOk ts m) (h : Hs w0 S U w hb p tv ts ds) (hx : x < 2 * n - 1) (hk : (Rt.nd ts x).kd = 2)
    (hc : c < 2 * n - 1) (hup : upB (c : Int) (n : Int) = true) (ho : Mth.sib c = o) (hox : o < 2 * n - 1) (ho5 : Mth.lvl o ≤ 5) (hmd : m ≤ ds.length) (hl : ds.length + 2000 < 100000) :
    Calls Tryz.prog 23 #[.pointer (some ⟨hb, 0, none⟩), .int .i64 (x : Int), .int .i64 (c : Int)] w (VouchPost w0 S U w hb p tv ts ds 1900 (Rt.nd ts x).enc (Rt.nd ts x).hash) := by
  have hlen := hn.mn.len
  have hbd := hn.bd
  have hlv : (((ts.length : Int) + 1) / 2) = (n : Int) := by omega
  have HLv := Lib.hid (hleaves_any h (by omega))
  rw [hlv] at HLv
  have HSb := Lib.hid (Sibling_any (c : Int) (n : Int) w ⟨by omega, by omega⟩ ⟨by omega, by omega⟩ (hT.kept h.arena.kept))
  rw [hup, Int.toNat_natCast, ho] at HSb
  have HSb : Hid (Calls Tryz.prog 46 #[.int .i64 (c : Int), .int .i64 (n : Int)] w fun e w' => e = .returned (.tuple #[.int .i64 (o : Nat), .int .i64 0]) ∧ Kept w w') := HSb
  have HH := Lib.hid h
  obtain ⟨tb, tf, tc, la, lc, htv, hat⟩ := h.cells x (by omega)
  subst htv
  have x0 : (0 : Int) ≤ (x : Int) := by omega
  have x1 : (x : Int) < (ts.length : Int) := by omega
  clear hlv hlen hbd h
  go_enter Tryz.func23, Tryz.ntmps23
  go_wp2_with fail
  (with_reducible refine HLv.out.mono ?_); rintro e w1 ⟨rfl, rfl⟩
  go_wp2_with fail
  (with_reducible refine HSb.out.mono ?_); rintro e w1 ⟨rfl, k1⟩
  go_wp2_with fail
  go_cut [10, 11] from 19 to 34 (fun u v wx => CutV w (Rt.nd ts x) (.slice la (Rt.nd ts x).un.length lc) u v wx)
  case first =>
    have k1d : Kept w w1.drew := k1.drew
    have hd := hat w1.drew (k1d.turn _)
    obtain ⟨⟨c0, c1, c2, c3, c4, c5⟩, hun⟩ := hd
    have kpd : HoldV hb tb (tf + x * 6) (.slice (some ⟨tb, tf, none⟩) ts.length tc) (Rt.nd ts x) (.slice la (Rt.nd ts x).un.length lc) w1.drew := ⟨(HH.out.blk.kept k1d).cell 1, c0, c1, c2, c3, c4, c5⟩
    have HAm := Lib.hid (fun W (k : Kept w1.drew W) => among_any (hun.kept k))
    have kW := Kept.refl w1.drew
    obtain ⟨v58, i58⟩ := Tryz.zero58
    have I58 := Shut.mk i58
    clear i58
    unfold offV at v58
    obtain ⟨Z, HZ⟩ : ∃ Z, Shut (Z = (offL fun _ => false).toArray) := ⟨_, ⟨rfl⟩⟩
    rw [← HZ.out] at v58
    clear hat c0 c1 c2 c3 c4 c5 hun hn hT hm hx hk hc hup ho hox ho5 hmd hl HLv HSb
    generalize Rt.nd ts x = d at *
    refine wp_region_held_drew (S := (fun w' => w'.cell? ⟨hb, 1, none⟩ = some (.slice (some ⟨tb, tf, none⟩) ts.length tc) ∧ w'.cell? ⟨tb, tf + x * 6, none⟩ = some (.int .i64 d.kd) ∧ w'.cell? ⟨tb, tf + x * 6 + 1, none⟩ = some (.int .i64 d.id) ∧ w'.cell? ⟨tb, tf + x * 6 + 2, none⟩ = some (.int .i64 d.enc) ∧ w'.cell? ⟨tb, tf + x * 6 + 3, none⟩ = some (.int .i64 d.sig) ∧ w'.cell? ⟨tb, tf + x * 6 + 4, none⟩ = some (.int .i64 d.hash) ∧ w'.cell? ⟨tb, tf + x * 6 + 5, none⟩ = some (.slice la d.un.length lc))) (by kernel_rfl) kpd (fun hHeld => ?_)
    generalize w1.drew = wd at *
    obtain ⟨zd, HZD⟩ : ∃ zd, Shut (zd = wd.heap.size) := ⟨_, ⟨rfl⟩⟩
    refine wpAnyH_takeL (i := 0) (v := .pointer (some ⟨hb, 0, none⟩)) rfl (by kernel_rfl) (by kernel_rfl) (by kernel_rfl) (fun _ _ _ h => h) (Or.inl ⟨by rfl, ?_⟩) hHeld ?_
    · intro w hSw; (try dsimp only at hSw); go_simp
    try simp only [Act.put, List.setIfInBounds_toArray, List.set_cons_zero, List.set_cons_succ]
    refine wpAnyH_takeL (i := 1) (v := .pointer (some ⟨hb, 0, none⟩)) rfl (by kernel_rfl) (by kernel_rfl) (by kernel_rfl) (fun _ _ _ h => h) (Or.inl ⟨by rfl, ?_⟩) hHeld ?_
    · intro w hSw; (try dsimp only at hSw); go_simp
    try simp only [Act.put, List.setIfInBounds_toArray, List.set_cons_zero, List.set_cons_succ]
    refine wpAnyH_takeL (i := 2) (v := .pointer (some ⟨hb, 1, none⟩)) rfl (by kernel_rfl) (by kernel_rfl) (by kernel_rfl) (fun _ _ _ h => h) (Or.inl ⟨by rfl, ?_⟩) hHeld ?_
    · intro w hSw; (try dsimp only at hSw); go_simp
    try simp only [Act.put, List.setIfInBounds_toArray, List.set_cons_zero, List.set_cons_succ]
    refine wpAnyH_takeL (i := 3) (v := .slice (some ⟨tb, tf, none⟩) ts.length tc) rfl (by kernel_rfl) (by kernel_rfl) (by kernel_rfl) (fun _ _ _ h => h) (Or.inl ⟨by rfl, ?_⟩) hHeld ?_
    · intro w hSw; (try dsimp only at hSw); go_simp
    try simp only [Act.put, List.setIfInBounds_toArray, List.set_cons_zero, List.set_cons_succ]
    refine wpAnyH_takeL (i := 4) (v := .int .i64 (x : Int)) rfl (by kernel_rfl) (by kernel_rfl) (by kernel_rfl) (fun _ _ _ h => h) (Or.inl ⟨by rfl, ?_⟩) hHeld ?_
    · intro w hSw; (try dsimp only at hSw); go_simp
    try simp only [Act.put, List.setIfInBounds_toArray, List.set_cons_zero, List.set_cons_succ]
    refine wpAnyH_takeL (i := 5) (v := .pointer (some ⟨tb, tf + x * 6, none⟩)) rfl (by kernel_rfl) (by kernel_rfl) (by kernel_rfl) (fun _ _ _ h => h) (Or.inl ⟨by rfl, ?_⟩) hHeld ?_
    · intro w hSw; (try dsimp only at hSw); go_simp
    try simp only [Act.put, List.setIfInBounds_toArray, List.set_cons_zero, List.set_cons_succ]
    refine wpAnyH_takeL (i := 6) (v := .agg #[.int .i64 d.kd, .int .i64 d.id, .int .i64 d.enc, .int .i64 d.sig, .int .i64 d.hash, .slice la d.un.length lc]) rfl (by kernel_rfl) (by kernel_rfl) (by kernel_rfl) (fun _ _ _ h => h) (Or.inl ⟨by rfl, ?_⟩) hHeld ?_
    · intro w hSw; (try dsimp only at hSw); go_simp
    try simp only [Act.put, List.setIfInBounds_toArray, List.set_cons_zero, List.set_cons_succ]
    refine wpAnyH_takeL (i := 7) (v := .pointer (some ⟨hb, 0, none⟩)) rfl (by kernel_rfl) (by kernel_rfl) (by kernel_rfl) (fun _ _ _ h => h) (Or.inl ⟨by rfl, ?_⟩) hHeld ?_
    · intro w hSw; (try dsimp only at hSw); go_simp
    try simp only [Act.put, List.setIfInBounds_toArray, List.set_cons_zero, List.set_cons_succ]
    refine wpAnyH_takeL (i := 8) (v := .pointer (some ⟨hb, 0, none⟩)) rfl (by kernel_rfl) (by kernel_rfl) (by kernel_rfl) (fun _ _ _ h => h) (Or.inl ⟨by rfl, ?_⟩) hHeld ?_
    · intro w hSw; (try dsimp only at hSw); go_simp
    try simp only [Act.put, List.setIfInBounds_toArray, List.set_cons_zero, List.set_cons_succ]
    refine wpAnyH_takeL (i := 9) (v := .pointer (some ⟨hb, 1, none⟩)) rfl (by kernel_rfl) (by kernel_rfl) (by kernel_rfl) (fun _ _ _ h => h) (Or.inl ⟨by rfl, ?_⟩) hHeld ?_
    · intro w hSw; (try dsimp only at hSw); go_simp
    try simp only [Act.put, List.setIfInBounds_toArray, List.set_cons_zero, List.set_cons_succ]
    refine wpAnyH_takeL (i := 10) (v := .slice (some ⟨tb, tf, none⟩) ts.length tc) rfl (by kernel_rfl) (by kernel_rfl) (by kernel_rfl) (fun _ _ _ h => h) (Or.inl ⟨by rfl, ?_⟩) hHeld ?_
    · intro w hSw; (try dsimp only at hSw); go_simp
    try simp only [Act.put, List.setIfInBounds_toArray, List.set_cons_zero, List.set_cons_succ]
    refine wpAnyH_takeL (i := 11) (v := .int .i64 (x : Int)) rfl (by kernel_rfl) (by kernel_rfl) (by kernel_rfl) (fun _ _ _ h => h) (Or.inl ⟨by rfl, ?_⟩) hHeld ?_
    · intro w hSw; (try dsimp only at hSw); go_simp
    try simp only [Act.put, List.setIfInBounds_toArray, List.set_cons_zero, List.set_cons_succ]
    refine wpAnyH_takeL (i := 12) (v := .pointer (some ⟨tb, tf + x * 6, none⟩)) rfl (by kernel_rfl) (by kernel_rfl) (by kernel_rfl) (fun _ _ _ h => h) (Or.inl ⟨by rfl, ?_⟩) hHeld ?_
    · intro w hSw; (try dsimp only at hSw); go_simp
    try simp only [Act.put, List.setIfInBounds_toArray, List.set_cons_zero, List.set_cons_succ]
    refine wpAnyH_takeL (i := 13) (v := .pointer (some ⟨tb, tf + x * 6 + 5, none⟩)) rfl (by kernel_rfl) (by kernel_rfl) (by kernel_rfl) (fun _ _ _ h => h) (Or.inl ⟨by rfl, ?_⟩) hHeld ?_
    · intro w hSw; (try dsimp only at hSw); go_simp
    try simp only [Act.put, List.setIfInBounds_toArray, List.set_cons_zero, List.set_cons_succ]
    refine wpAnyH_takeL (i := 14) (v := .slice la d.un.length lc) rfl (by kernel_rfl) (by kernel_rfl) (by kernel_rfl) (fun _ _ _ h => h) (Or.inl ⟨by rfl, ?_⟩) hHeld ?_
    · intro w hSw; (try dsimp only at hSw); go_simp
    try simp only [Act.put, List.setIfInBounds_toArray, List.set_cons_zero, List.set_cons_succ]
    refine wpAnyH_ready (rs := [15, 16, 17]) (by kernel_rfl) (by simp) ?_
    refine AllReadyH_consL (i := 15) rfl (fun K hK => ?_) ?_
    · have tok := trivial
      go_simp
      (with_reducible refine (HAm.out _ kW).mono ?_); rintro e w2 ⟨f, rfl, -, kf⟩
      replace kW := kW.trans kf
      clear kf
      refine hK.out _ _ (kpd.kept kW) (fun hHeld2 => ?_)
      clear hK K hHeld
      have hHeld := hHeld2
      clear hHeld2
      try simp only [Act.put, List.setIfInBounds_toArray, List.set_cons_zero, List.set_cons_succ]
      refine wpAnyH_ready (rs := [16, 17]) (by kernel_rfl) (by simp) ?_
      refine AllReadyH_consL (i := 16) rfl (fun K hK => ?_) ?_
      · have tok := trivial
        go_simp
        have bA := Blk.new w2 [.int .i64 0, .int .i64 0, .int .i64 0, .int .i64 0, .int .i64 0, .slice none 0 0] 29
        have hA2 : zd ≤ w2.heap.size := by rw [HZD.out]; exact kW.size
        have hA : w.heap.size ≤ w2.heap.size := Nat.le_trans k1d.size kW.size
        replace kW := kW.alloc (.cells #[.int .i64 0, .int .i64 0, .int .i64 0, .int .i64 0, .int .i64 0, .slice none 0 0] 29)
        replace bA : Blk (w2.alloc (.cells #[.int .i64 0, .int .i64 0, .int .i64 0, .int .i64 0, .int .i64 0, .slice none 0 0] 29)) w2.heap.size 29 [.int .i64 0, .int .i64 0, .int .i64 0, .int .i64 0, .int .i64 0, .slice none 0 0] := bA
        generalize w2.alloc (.cells #[.int .i64 0, .int .i64 0, .int .i64 0, .int .i64 0, .int .i64 0, .slice none 0 0] 29) = w3 at bA kW ⊢
        generalize w2.heap.size = b1 at bA hA hA2 ⊢
        refine hK.out _ _ (kpd.kept kW) (fun hHeld2 => ?_)
        clear hK K hHeld
        have hHeld := hHeld2
        clear hHeld2
        try simp only [Act.put, List.setIfInBounds_toArray, List.set_cons_zero, List.set_cons_succ]
        refine wpAnyH_ready (rs := [17]) (by kernel_rfl) (by simp) ?_
        refine AllReadyH_consL (i := 17) rfl (fun K hK => ?_) ?_
        · have tok := trivial
          go_simp
          have bB := Blk.new w3 (offL fun _ => false) 58
          rw [← HZ.out] at bB
          replace bA := bA.kept ((Kept.refl w3).alloc (.cells Z 58))
          have hB2 : zd ≤ w3.heap.size := by rw [HZD.out]; exact kW.size
          have hB : w.heap.size ≤ w3.heap.size := Nat.le_trans k1d.size kW.size
          replace kW := kW.alloc (.cells Z 58)
          generalize w3.alloc (.cells Z 58) = w4 at bB kW bA ⊢
          generalize w3.heap.size = b2 at bB hB hB2 ⊢
          refine hK.out _ _ (kpd.kept kW) (fun hHeld2 => ?_)
          clear hK K hHeld
          have hHeld := hHeld2
          clear hHeld2
          try simp only [Act.put, List.setIfInBounds_toArray, List.set_cons_zero, List.set_cons_succ]
          have hne : b2 ≠ b1 := Blk.ne bB bA (by decide)
          refine wpAnyH_ready (rs := [18]) (by kernel_rfl) (by simp) ?_
          refine AllReadyH_consL (i := 18) rfl (fun K hK => ?_) AllReadyH.nil
          rw [if_pos (by rfl)]
          refine wp_store_row 29 (.tmp 10) (.tmp 25) rfl b1 #[.int .i64 d.kd, .int .i64 d.id, .int .i64 d.enc, .int .i64 d.sig, .int .i64 d.hash, .slice la d.un.length lc] rfl rfl _ _ bA (by kernel_rfl) rfl (ones6a d la d.un.length lc) ?_
          have bA2 : Blk (w4.setRow b1 #[.int .i64 d.kd, .int .i64 d.id, .int .i64 d.enc, .int .i64 d.sig, .int .i64 d.hash, .slice la d.un.length lc]) b1 29 (tnCells d (.slice la d.un.length lc)) := setRow_heap w4 b1 _ #[.int .i64 d.kd, .int .i64 d.id, .int .i64 d.enc, .int .i64 d.sig, .int .i64 d.hash, .slice la d.un.length lc] _ _ bA
          have bB2 : Blk (w4.setRow b1 #[.int .i64 d.kd, .int .i64 d.id, .int .i64 d.enc, .int .i64 d.sig, .int .i64 d.hash, .slice la d.un.length lc]) b2 58 (offL fun _ => false) := by unfold Blk; rw [setRow_other _ _ _ _ hne]; exact bB
          replace kW : Kept wd (w4.setRow b1 #[.int .i64 d.kd, .int .i64 d.id, .int .i64 d.enc, .int .i64 d.sig, .int .i64 d.hash, .slice la d.un.length lc]) := below_setRow kW (by rw [← HZD.out]; exact hA2) _
          generalize w4.setRow b1 #[.int .i64 d.kd, .int .i64 d.id, .int .i64 d.enc, .int .i64 d.sig, .int .i64 d.hash, .slice la d.un.length lc] = w8 at bA2 bB2 kW ⊢
          refine hK.out _ _ (kpd.kept kW) (fun hHeld2 => ?_)
          clear hK K hHeld
          have hHeld := hHeld2
          clear hHeld2
          try simp only [Act.put, List.setIfInBounds_toArray, List.set_cons_zero, List.set_cons_succ]
          refine wpAnyH_ready (rs := [19]) (by kernel_rfl) (by simp) ?_
          refine AllReadyH_consL (i := 19) rfl (fun K hK => ?_) AllReadyH.nil
          rw [if_pos (by rfl)]
          refine wp_store_row 58 (.tmp 11) (.tmp 34) rfl b2 (offL f).toArray rfl rfl _ _ bB2 (by rw [I58.out]; simp [offL_len]) (by simp [offL_len]) (offL_one _) ?_
          have bB3 : Blk (w8.setRow b2 (offL f).toArray) b2 58 (offL f) := setRow_heap w8 b2 _ (offL f).toArray _ _ bB2
          have bA3 : Blk (w8.setRow b2 (offL f).toArray) b1 29 (tnCells d (.slice la d.un.length lc)) := by unfold Blk; rw [setRow_other _ _ _ _ hne.symm]; exact bA2
          replace kW : Kept wd (w8.setRow b2 (offL f).toArray) := below_setRow kW (by rw [← HZD.out]; exact hB2) _
          generalize w8.setRow b2 (offL f).toArray = w9 at bA3 bB3 kW ⊢
          refine hK.out _ _ (kpd.kept kW) (fun hHeld2 => ?_)
          clear hK K hHeld
          have hHeld := hHeld2
          clear hHeld2
          try simp only [Act.put, List.setIfInBounds_toArray, List.set_cons_zero, List.set_cons_succ]
          refine wpAnyH_done (by kernel_rfl) ?_ _
          go_wp2_with fail
          go_meet
          exact ⟨b1, b2, f, rfl, rfl, bA3, bB3, hA, hB, k1d.trans kW⟩
        exact AllReadyH.nil
      refine AllReadyH_consL (i := 17) rfl (fun K hK => ?_) ?_
      · have tok := trivial
        go_simp
        have bB := Blk.new w2 (offL fun _ => false) 58
        rw [← HZ.out] at bB
        have hB2 : zd ≤ w2.heap.size := by rw [HZD.out]; exact kW.size
        have hB : w.heap.size ≤ w2.heap.size := Nat.le_trans k1d.size kW.size
        replace kW := kW.alloc (.cells Z 58)
        generalize w2.alloc (.cells Z 58) = w3 at bB kW ⊢
        generalize w2.heap.size = b2 at bB hB hB2 ⊢
        refine hK.out _ _ (kpd.kept kW) (fun hHeld2 => ?_)
        clear hK K hHeld
        have hHeld := hHeld2
        clear hHeld2
        try simp only [Act.put, List.setIfInBounds_toArray, List.set_cons_zero, List.set_cons_succ]
        refine wpAnyH_ready (rs := [16]) (by kernel_rfl) (by simp) ?_
        refine AllReadyH_consL (i := 16) rfl (fun K hK => ?_) ?_
        · have tok := trivial
          go_simp
          have bA := Blk.new w3 [.int .i64 0, .int .i64 0, .int .i64 0, .int .i64 0, .int .i64 0, .slice none 0 0] 29
          replace bB := bB.kept ((Kept.refl w3).alloc (.cells #[.int .i64 0, .int .i64 0, .int .i64 0, .int .i64 0, .int .i64 0, .slice none 0 0] 29))
          have hA2 : zd ≤ w3.heap.size := by rw [HZD.out]; exact kW.size
          have hA : w.heap.size ≤ w3.heap.size := Nat.le_trans k1d.size kW.size
          replace kW := kW.alloc (.cells #[.int .i64 0, .int .i64 0, .int .i64 0, .int .i64 0, .int .i64 0, .slice none 0 0] 29)
          replace bA : Blk (w3.alloc (.cells #[.int .i64 0, .int .i64 0, .int .i64 0, .int .i64 0, .int .i64 0, .slice none 0 0] 29)) w3.heap.size 29 [.int .i64 0, .int .i64 0, .int .i64 0, .int .i64 0, .int .i64 0, .slice none 0 0] := bA
          generalize w3.alloc (.cells #[.int .i64 0, .int .i64 0, .int .i64 0, .int .i64 0, .int .i64 0, .slice none 0 0] 29) = w4 at bA bB kW ⊢
          generalize w3.heap.size = b1 at bA hA hA2 ⊢
          refine hK.out _ _ (kpd.kept kW) (fun hHeld2 => ?_)
          clear hK K hHeld
          have hHeld := hHeld2
          clear hHeld2
          try simp only [Act.put, List.setIfInBounds_toArray, List.set_cons_zero, List.set_cons_succ]
          have hne : b2 ≠ b1 := Blk.ne bB bA (by decide)
          refine wpAnyH_ready (rs := [18]) (by kernel_rfl) (by simp) ?_
          refine AllReadyH_consL (i := 18) rfl (fun K hK => ?_) AllReadyH.nil
          rw [if_pos (by rfl)]
          refine wp_store_row 29 (.tmp 10) (.tmp 25) rfl b1 #[.int .i64 d.kd, .int .i64 d.id, .int .i64 d.enc, .int .i64 d.sig, .int .i64 d.hash, .slice la d.un.length lc] rfl rfl _ _ bA (by kernel_rfl) rfl (ones6a d la d.un.length lc) ?_
          have bA2 : Blk (w4.setRow b1 #[.int .i64 d.kd, .int .i64 d.id, .int .i64 d.enc, .int .i64 d.sig, .int .i64 d.hash, .slice la d.un.length lc]) b1 29 (tnCells d (.slice la d.un.length lc)) := setRow_heap w4 b1 _ #[.int .i64 d.kd, .int .i64 d.id, .int .i64 d.enc, .int .i64 d.sig, .int .i64 d.hash, .slice la d.un.length lc] _ _ bA
          have bB2 : Blk (w4.setRow b1 #[.int .i64 d.kd, .int .i64 d.id, .int .i64 d.enc, .int .i64 d.sig, .int .i64 d.hash, .slice la d.un.length lc]) b2 58 (offL fun _ => false) := by unfold Blk; rw [setRow_other _ _ _ _ hne]; exact bB
          replace kW : Kept wd (w4.setRow b1 #[.int .i64 d.kd, .int .i64 d.id, .int .i64 d.enc, .int .i64 d.sig, .int .i64 d.hash, .slice la d.un.length lc]) := below_setRow kW (by rw [← HZD.out]; exact hA2) _
          generalize w4.setRow b1 #[.int .i64 d.kd, .int .i64 d.id, .int .i64 d.enc, .int .i64 d.sig, .int .i64 d.hash, .slice la d.un.length lc] = w8 at bA2 bB2 kW ⊢
          refine hK.out _ _ (kpd.kept kW) (fun hHeld2 => ?_)
          clear hK K hHeld
          have hHeld := hHeld2
          clear hHeld2
          try simp only [Act.put, List.setIfInBounds_toArray, List.set_cons_zero, List.set_cons_succ]
          refine wpAnyH_ready (rs := [19]) (by kernel_rfl) (by simp) ?_
          refine AllReadyH_consL (i := 19) rfl (fun K hK => ?_) AllReadyH.nil
          rw [if_pos (by rfl)]
          refine wp_store_row 58 (.tmp 11) (.tmp 34) rfl b2 (offL f).toArray rfl rfl _ _ bB2 (by rw [I58.out]; simp [offL_len]) (by simp [offL_len]) (offL_one _) ?_
          have bB3 : Blk (w8.setRow b2 (offL f).toArray) b2 58 (offL f) := setRow_heap w8 b2 _ (offL f).toArray _ _ bB2
          have bA3 : Blk (w8.setRow b2 (offL f).toArray) b1 29 (tnCells d (.slice la d.un.length lc)) := by unfold Blk; rw [setRow_other _ _ _ _ hne.symm]; exact bA2
          replace kW : Kept wd (w8.setRow b2 (offL f).toArray) := below_setRow kW (by rw [← HZD.out]; exact hB2) _
          generalize w8.setRow b2 (offL f).toArray = w9 at bA3 bB3 kW ⊢
          refine hK.out _ _ (kpd.kept kW) (fun hHeld2 => ?_)
          clear hK K hHeld
          have hHeld := hHeld2
          clear hHeld2
          try simp only [Act.put, List.setIfInBounds_toArray, List.set_cons_zero, List.set_cons_succ]
          refine wpAnyH_done (by kernel_rfl) ?_ _
          go_wp2_with fail
          go_meet
          exact ⟨b1, b2, f, rfl, rfl, bA3, bB3, hA, hB, k1d.trans kW⟩
        exact AllReadyH.nil
      exact AllReadyH.nil
    refine AllReadyH_consL (i := 16) rfl (fun K hK => ?_) ?_
    · have tok := trivial
      go_simp
      have bA := Blk.new wd [.int .i64 0, .int .i64 0, .int .i64 0, .int .i64 0, .int .i64 0, .slice none 0 0] 29
      have hA2 : zd ≤ wd.heap.size := by rw [HZD.out]; exact kW.size
      have hA : w.heap.size ≤ wd.heap.size := Nat.le_trans k1d.size kW.size
      replace kW := kW.alloc (.cells #[.int .i64 0, .int .i64 0, .int .i64 0, .int .i64 0, .int .i64 0, .slice none 0 0] 29)
      replace bA : Blk (wd.alloc (.cells #[.int .i64 0, .int .i64 0, .int .i64 0, .int .i64 0, .int .i64 0, .slice none 0 0] 29)) wd.heap.size 29 [.int .i64 0, .int .i64 0, .int .i64 0, .int .i64 0, .int .i64 0, .slice none 0 0] := bA
      generalize wd.alloc (.cells #[.int .i64 0, .int .i64 0, .int .i64 0, .int .i64 0, .int .i64 0, .slice none 0 0] 29) = w2 at bA kW ⊢
      generalize wd.heap.size = b1 at bA hA hA2 ⊢
      refine hK.out _ _ (kpd.kept kW) (fun hHeld2 => ?_)
      clear hK K hHeld
      have hHeld := hHeld2
      clear hHeld2
      try simp only [Act.put, List.setIfInBounds_toArray, List.set_cons_zero, List.set_cons_succ]
      refine wpAnyH_ready (rs := [15, 17]) (by kernel_rfl) (by simp) ?_
      refine AllReadyH_consL (i := 15) rfl (fun K hK => ?_) ?_
      · have tok := trivial
        go_simp
        (with_reducible refine (HAm.out _ kW).mono ?_); rintro e w3 ⟨f, rfl, -, kf⟩
        replace bA := bA.kept kf
        replace kW := kW.trans kf
        clear kf
        refine hK.out _ _ (kpd.kept kW) (fun hHeld2 => ?_)
        clear hK K hHeld
        have hHeld := hHeld2
        clear hHeld2
        try simp only [Act.put, List.setIfInBounds_toArray, List.set_cons_zero, List.set_cons_succ]
        refine wpAnyH_ready (rs := [17]) (by kernel_rfl) (by simp) ?_
        refine AllReadyH_consL (i := 17) rfl (fun K hK => ?_) ?_
        · have tok := trivial
          go_simp
          have bB := Blk.new w3 (offL fun _ => false) 58
          rw [← HZ.out] at bB
          replace bA := bA.kept ((Kept.refl w3).alloc (.cells Z 58))
          have hB2 : zd ≤ w3.heap.size := by rw [HZD.out]; exact kW.size
          have hB : w.heap.size ≤ w3.heap.size := Nat.le_trans k1d.size kW.size
          replace kW := kW.alloc (.cells Z 58)
          generalize w3.alloc (.cells Z 58) = w4 at bB kW bA ⊢
          generalize w3.heap.size = b2 at bB hB hB2 ⊢
          refine hK.out _ _ (kpd.kept kW) (fun hHeld2 => ?_)
          clear hK K hHeld
          have hHeld := hHeld2
          clear hHeld2
          try simp only [Act.put, List.setIfInBounds_toArray, List.set_cons_zero, List.set_cons_succ]
          have hne : b2 ≠ b1 := Blk.ne bB bA (by decide)
          refine wpAnyH_ready (rs := [18]) (by kernel_rfl) (by simp) ?_
          refine AllReadyH_consL (i := 18) rfl (fun K hK => ?_) AllReadyH.nil
          rw [if_pos (by rfl)]
          refine wp_store_row 29 (.tmp 10) (.tmp 25) rfl b1 #[.int .i64 d.kd, .int .i64 d.id, .int .i64 d.enc, .int .i64 d.sig, .int .i64 d.hash, .slice la d.un.length lc] rfl rfl _ _ bA (by kernel_rfl) rfl (ones6a d la d.un.length lc) ?_
          have bA2 : Blk (w4.setRow b1 #[.int .i64 d.kd, .int .i64 d.id, .int .i64 d.enc, .int .i64 d.sig, .int .i64 d.hash, .slice la d.un.length lc]) b1 29 (tnCells d (.slice la d.un.length lc)) := setRow_heap w4 b1 _ #[.int .i64 d.kd, .int .i64 d.id, .int .i64 d.enc, .int .i64 d.sig, .int .i64 d.hash, .slice la d.un.length lc] _ _ bA
          have bB2 : Blk (w4.setRow b1 #[.int .i64 d.kd, .int .i64 d.id, .int .i64 d.enc, .int .i64 d.sig, .int .i64 d.hash, .slice la d.un.length lc]) b2 58 (offL fun _ => false) := by unfold Blk; rw [setRow_other _ _ _ _ hne]; exact bB
          replace kW : Kept wd (w4.setRow b1 #[.int .i64 d.kd, .int .i64 d.id, .int .i64 d.enc, .int .i64 d.sig, .int .i64 d.hash, .slice la d.un.length lc]) := below_setRow kW (by rw [← HZD.out]; exact hA2) _
          generalize w4.setRow b1 #[.int .i64 d.kd, .int .i64 d.id, .int .i64 d.enc, .int .i64 d.sig, .int .i64 d.hash, .slice la d.un.length lc] = w8 at bA2 bB2 kW ⊢
          refine hK.out _ _ (kpd.kept kW) (fun hHeld2 => ?_)
          clear hK K hHeld
          have hHeld := hHeld2
          clear hHeld2
          try simp only [Act.put, List.setIfInBounds_toArray, List.set_cons_zero, List.set_cons_succ]
          refine wpAnyH_ready (rs := [19]) (by kernel_rfl) (by simp) ?_
          refine AllReadyH_consL (i := 19) rfl (fun K hK => ?_) AllReadyH.nil
          rw [if_pos (by rfl)]
          refine wp_store_row 58 (.tmp 11) (.tmp 34) rfl b2 (offL f).toArray rfl rfl _ _ bB2 (by rw [I58.out]; simp [offL_len]) (by simp [offL_len]) (offL_one _) ?_
          have bB3 : Blk (w8.setRow b2 (offL f).toArray) b2 58 (offL f) := setRow_heap w8 b2 _ (offL f).toArray _ _ bB2
          have bA3 : Blk (w8.setRow b2 (offL f).toArray) b1 29 (tnCells d (.slice la d.un.length lc)) := by unfold Blk; rw [setRow_other _ _ _ _ hne.symm]; exact bA2
          replace kW : Kept wd (w8.setRow b2 (offL f).toArray) := below_setRow kW (by rw [← HZD.out]; exact hB2) _
          generalize w8.setRow b2 (offL f).toArray = w9 at bA3 bB3 kW ⊢
          refine hK.out _ _ (kpd.kept kW) (fun hHeld2 => ?_)
          clear hK K hHeld
          have hHeld := hHeld2
          clear hHeld2
          try simp only [Act.put, List.setIfInBounds_toArray, List.set_cons_zero, List.set_cons_succ]
          refine wpAnyH_done (by kernel_rfl) ?_ _
          go_wp2_with fail
          go_meet
          exact ⟨b1, b2, f, rfl, rfl, bA3, bB3, hA, hB, k1d.trans kW⟩
        exact AllReadyH.nil
      refine AllReadyH_consL (i := 17) rfl (fun K hK => ?_) ?_
      · have tok := trivial
        go_simp
        have bB := Blk.new w2 (offL fun _ => false) 58
        rw [← HZ.out] at bB
        replace bA := bA.kept ((Kept.refl w2).alloc (.cells Z 58))
        have hB2 : zd ≤ w2.heap.size := by rw [HZD.out]; exact kW.size
        have hB : w.heap.size ≤ w2.heap.size := Nat.le_trans k1d.size kW.size
        replace kW := kW.alloc (.cells Z 58)
        generalize w2.alloc (.cells Z 58) = w3 at bB kW bA ⊢
        generalize w2.heap.size = b2 at bB hB hB2 ⊢
        refine hK.out _ _ (kpd.kept kW) (fun hHeld2 => ?_)
        clear hK K hHeld
        have hHeld := hHeld2
        clear hHeld2
        try simp only [Act.put, List.setIfInBounds_toArray, List.set_cons_zero, List.set_cons_succ]
        refine wpAnyH_ready (rs := [15]) (by kernel_rfl) (by simp) ?_
        refine AllReadyH_consL (i := 15) rfl (fun K hK => ?_) ?_
        · have tok := trivial
          go_simp
          (with_reducible refine (HAm.out _ kW).mono ?_); rintro e w4 ⟨f, rfl, -, kf⟩
          replace bA := bA.kept kf
          replace bB := bB.kept kf
          replace kW := kW.trans kf
          clear kf
          refine hK.out _ _ (kpd.kept kW) (fun hHeld2 => ?_)
          clear hK K hHeld
          have hHeld := hHeld2
          clear hHeld2
          try simp only [Act.put, List.setIfInBounds_toArray, List.set_cons_zero, List.set_cons_succ]
          have hne : b2 ≠ b1 := Blk.ne bB bA (by decide)
          refine wpAnyH_ready (rs := [18]) (by kernel_rfl) (by simp) ?_
          refine AllReadyH_consL (i := 18) rfl (fun K hK => ?_) AllReadyH.nil
          rw [if_pos (by rfl)]
          refine wp_store_row 29 (.tmp 10) (.tmp 25) rfl b1 #[.int .i64 d.kd, .int .i64 d.id, .int .i64 d.enc, .int .i64 d.sig, .int .i64 d.hash, .slice la d.un.length lc] rfl rfl _ _ bA (by kernel_rfl) rfl (ones6a d la d.un.length lc) ?_
          have bA2 : Blk (w4.setRow b1 #[.int .i64 d.kd, .int .i64 d.id, .int .i64 d.enc, .int .i64 d.sig, .int .i64 d.hash, .slice la d.un.length lc]) b1 29 (tnCells d (.slice la d.un.length lc)) := setRow_heap w4 b1 _ #[.int .i64 d.kd, .int .i64 d.id, .int .i64 d.enc, .int .i64 d.sig, .int .i64 d.hash, .slice la d.un.length lc] _ _ bA
          have bB2 : Blk (w4.setRow b1 #[.int .i64 d.kd, .int .i64 d.id, .int .i64 d.enc, .int .i64 d.sig, .int .i64 d.hash, .slice la d.un.length lc]) b2 58 (offL fun _ => false) := by unfold Blk; rw [setRow_other _ _ _ _ hne]; exact bB
          replace kW : Kept wd (w4.setRow b1 #[.int .i64 d.kd, .int .i64 d.id, .int .i64 d.enc, .int .i64 d.sig, .int .i64 d.hash, .slice la d.un.length lc]) := below_setRow kW (by rw [← HZD.out]; exact hA2) _
          generalize w4.setRow b1 #[.int .i64 d.kd, .int .i64 d.id, .int .i64 d.enc, .int .i64 d.sig, .int .i64 d.hash, .slice la d.un.length lc] = w8 at bA2 bB2 kW ⊢
          refine hK.out _ _ (kpd.kept kW) (fun hHeld2 => ?_)
          clear hK K hHeld
          have hHeld := hHeld2
          clear hHeld2
          try simp only [Act.put, List.setIfInBounds_toArray, List.set_cons_zero, List.set_cons_succ]
          refine wpAnyH_ready (rs := [19]) (by kernel_rfl) (by simp) ?_
          refine AllReadyH_consL (i := 19) rfl (fun K hK => ?_) AllReadyH.nil
          rw [if_pos (by rfl)]
          refine wp_store_row 58 (.tmp 11) (.tmp 34) rfl b2 (offL f).toArray rfl rfl _ _ bB2 (by rw [I58.out]; simp [offL_len]) (by simp [offL_len]) (offL_one _) ?_
          have bB3 : Blk (w8.setRow b2 (offL f).toArray) b2 58 (offL f) := setRow_heap w8 b2 _ (offL f).toArray _ _ bB2
          have bA3 : Blk (w8.setRow b2 (offL f).toArray) b1 29 (tnCells d (.slice la d.un.length lc)) := by unfold Blk; rw [setRow_other _ _ _ _ hne.symm]; exact bA2
          replace kW : Kept wd (w8.setRow b2 (offL f).toArray) := below_setRow kW (by rw [← HZD.out]; exact hB2) _
          generalize w8.setRow b2 (offL f).toArray = w9 at bA3 bB3 kW ⊢
          refine hK.out _ _ (kpd.kept kW) (fun hHeld2 => ?_)
          clear hK K hHeld
          have hHeld := hHeld2
          clear hHeld2
          try simp only [Act.put, List.setIfInBounds_toArray, List.set_cons_zero, List.set_cons_succ]
          refine wpAnyH_done (by kernel_rfl) ?_ _
          go_wp2_with fail
          go_meet
          exact ⟨b1, b2, f, rfl, rfl, bA3, bB3, hA, hB, k1d.trans kW⟩
        exact AllReadyH.nil
      exact AllReadyH.nil
    refine AllReadyH_consL (i := 17) rfl (fun K hK => ?_) ?_
    · have tok := trivial
      go_simp
      have bB := Blk.new wd (offL fun _ => false) 58
      rw [← HZ.out] at bB
      have hB2 : zd ≤ wd.heap.size := by rw [HZD.out]; exact kW.size
      have hB : w.heap.size ≤ wd.heap.size := Nat.le_trans k1d.size kW.size
      replace kW := kW.alloc (.cells Z 58)
      generalize wd.alloc (.cells Z 58) = w2 at bB kW ⊢
      generalize wd.heap.size = b2 at bB hB hB2 ⊢
      refine hK.out _ _ (kpd.kept kW) (fun hHeld2 => ?_)
      clear hK K hHeld
      have hHeld := hHeld2
      clear hHeld2
      try simp only [Act.put, List.setIfInBounds_toArray, List.set_cons_zero, List.set_cons_succ]
      refine wpAnyH_ready (rs := [15, 16]) (by kernel_rfl) (by simp) ?_
      refine AllReadyH_consL (i := 15) rfl (fun K hK => ?_) ?_
      · have tok := trivial
        go_simp
        (with_reducible refine (HAm.out _ kW).mono ?_); rintro e w3 ⟨f, rfl, -, kf⟩
        replace bB := bB.kept kf
        replace kW := kW.trans kf
        clear kf
        refine hK.out _ _ (kpd.kept kW) (fun hHeld2 => ?_)
        clear hK K hHeld
        have hHeld := hHeld2
        clear hHeld2
        try simp only [Act.put, List.setIfInBounds_toArray, List.set_cons_zero, List.set_cons_succ]
        refine wpAnyH_ready (rs := [16]) (by kernel_rfl) (by simp) ?_
        refine AllReadyH_consL (i := 16) rfl (fun K hK => ?_) ?_
        · have tok := trivial
          go_simp
          have bA := Blk.new w3 [.int .i64 0, .int .i64 0, .int .i64 0, .int .i64 0, .int .i64 0, .slice none 0 0] 29
          replace bB := bB.kept ((Kept.refl w3).alloc (.cells #[.int .i64 0, .int .i64 0, .int .i64 0, .int .i64 0, .int .i64 0, .slice none 0 0] 29))
          have hA2 : zd ≤ w3.heap.size := by rw [HZD.out]; exact kW.size
          have hA : w.heap.size ≤ w3.heap.size := Nat.le_trans k1d.size kW.size
          replace kW := kW.alloc (.cells #[.int .i64 0, .int .i64 0, .int .i64 0, .int .i64 0, .int .i64 0, .slice none 0 0] 29)
          replace bA : Blk (w3.alloc (.cells #[.int .i64 0, .int .i64 0, .int .i64 0, .int .i64 0, .int .i64 0, .slice none 0 0] 29)) w3.heap.size 29 [.int .i64 0, .int .i64 0, .int .i64 0, .int .i64 0, .int .i64 0, .slice none 0 0] := bA
          generalize w3.alloc (.cells #[.int .i64 0, .int .i64 0, .int .i64 0, .int .i64 0, .int .i64 0, .slice none 0 0] 29) = w4 at bA bB kW ⊢
          generalize w3.heap.size = b1 at bA hA hA2 ⊢
          refine hK.out _ _ (kpd.kept kW) (fun hHeld2 => ?_)
          clear hK K hHeld
          have hHeld := hHeld2
          clear hHeld2
          try simp only [Act.put, List.setIfInBounds_toArray, List.set_cons_zero, List.set_cons_succ]
          have hne : b2 ≠ b1 := Blk.ne bB bA (by decide)
          refine wpAnyH_ready (rs := [18]) (by kernel_rfl) (by simp) ?_
          refine AllReadyH_consL (i := 18) rfl (fun K hK => ?_) AllReadyH.nil
          rw [if_pos (by rfl)]
          refine wp_store_row 29 (.tmp 10) (.tmp 25) rfl b1 #[.int .i64 d.kd, .int .i64 d.id, .int .i64 d.enc, .int .i64 d.sig, .int .i64 d.hash, .slice la d.un.length lc] rfl rfl _ _ bA (by kernel_rfl) rfl (ones6a d la d.un.length lc) ?_
          have bA2 : Blk (w4.setRow b1 #[.int .i64 d.kd, .int .i64 d.id, .int .i64 d.enc, .int .i64 d.sig, .int .i64 d.hash, .slice la d.un.length lc]) b1 29 (tnCells d (.slice la d.un.length lc)) := setRow_heap w4 b1 _ #[.int .i64 d.kd, .int .i64 d.id, .int .i64 d.enc, .int .i64 d.sig, .int .i64 d.hash, .slice la d.un.length lc] _ _ bA
          have bB2 : Blk (w4.setRow b1 #[.int .i64 d.kd, .int .i64 d.id, .int .i64 d.enc, .int .i64 d.sig, .int .i64 d.hash, .slice la d.un.length lc]) b2 58 (offL fun _ => false) := by unfold Blk; rw [setRow_other _ _ _ _ hne]; exact bB
          replace kW : Kept wd (w4.setRow b1 #[.int .i64 d.kd, .int .i64 d.id, .int .i64 d.enc, .int .i64 d.sig, .int .i64 d.hash, .slice la d.un.length lc]) := below_setRow kW (by rw [← HZD.out]; exact hA2) _
          generalize w4.setRow b1 #[.int .i64 d.kd, .int .i64 d.id, .int .i64 d.enc, .int .i64 d.sig, .int .i64 d.hash, .slice la d.un.length lc] = w8 at bA2 bB2 kW ⊢
          refine hK.out _ _ (kpd.kept kW) (fun hHeld2 => ?_)
          clear hK K hHeld
          have hHeld := hHeld2
          clear hHeld2
          try simp only [Act.put, List.setIfInBounds_toArray, List.set_cons_zero, List.set_cons_succ]
          refine wpAnyH_ready (rs := [19]) (by kernel_rfl) (by simp) ?_
          refine AllReadyH_consL (i := 19) rfl (fun K hK => ?_) AllReadyH.nil
          rw [if_pos (by rfl)]
          refine wp_store_row 58 (.tmp 11) (.tmp 34) rfl b2 (offL f).toArray rfl rfl _ _ bB2 (by rw [I58.out]; simp [offL_len]) (by simp [offL_len]) (offL_one _) ?_
          have bB3 : Blk (w8.setRow b2 (offL f).toArray) b2 58 (offL f) := setRow_heap w8 b2 _ (offL f).toArray _ _ bB2
          have bA3 : Blk (w8.setRow b2 (offL f).toArray) b1 29 (tnCells d (.slice la d.un.length lc)) := by unfold Blk; rw [setRow_other _ _ _ _ hne.symm]; exact bA2
          replace kW : Kept wd (w8.setRow b2 (offL f).toArray) := below_setRow kW (by rw [← HZD.out]; exact hB2) _
          generalize w8.setRow b2 (offL f).toArray = w9 at bA3 bB3 kW ⊢
          refine hK.out _ _ (kpd.kept kW) (fun hHeld2 => ?_)
          clear hK K hHeld
          have hHeld := hHeld2
          clear hHeld2
          try simp only [Act.put, List.setIfInBounds_toArray, List.set_cons_zero, List.set_cons_succ]
          refine wpAnyH_done (by kernel_rfl) ?_ _
          go_wp2_with fail
          go_meet
          exact ⟨b1, b2, f, rfl, rfl, bA3, bB3, hA, hB, k1d.trans kW⟩
        exact AllReadyH.nil
      refine AllReadyH_consL (i := 16) rfl (fun K hK => ?_) ?_
      · have tok := trivial
        go_simp
        have bA := Blk.new w2 [.int .i64 0, .int .i64 0, .int .i64 0, .int .i64 0, .int .i64 0, .slice none 0 0] 29
        replace bB := bB.kept ((Kept.refl w2).alloc (.cells #[.int .i64 0, .int .i64 0, .int .i64 0, .int .i64 0, .int .i64 0, .slice none 0 0] 29))
        have hA2 : zd ≤ w2.heap.size := by rw [HZD.out]; exact kW.size
        have hA : w.heap.size ≤ w2.heap.size := Nat.le_trans k1d.size kW.size
        replace kW := kW.alloc (.cells #[.int .i64 0, .int .i64 0, .int .i64 0, .int .i64 0, .int .i64 0, .slice none 0 0] 29)
        replace bA : Blk (w2.alloc (.cells #[.int .i64 0, .int .i64 0, .int .i64 0, .int .i64 0, .int .i64 0, .slice none 0 0] 29)) w2.heap.size 29 [.int .i64 0, .int .i64 0, .int .i64 0, .int .i64 0, .int .i64 0, .slice none 0 0] := bA
        generalize w2.alloc (.cells #[.int .i64 0, .int .i64 0, .int .i64 0, .int .i64 0, .int .i64 0, .slice none 0 0] 29) = w3 at bA bB kW ⊢
        generalize w2.heap.size = b1 at bA hA hA2 ⊢
        refine hK.out _ _ (kpd.kept kW) (fun hHeld2 => ?_)
        clear hK K hHeld
        have hHeld := hHeld2
        clear hHeld2
        try simp only [Act.put, List.setIfInBounds_toArray, List.set_cons_zero, List.set_cons_succ]
        refine wpAnyH_ready (rs := [15]) (by kernel_rfl) (by simp) ?_
        refine AllReadyH_consL (i := 15) rfl (fun K hK => ?_) ?_
        · have tok := trivial
          go_simp
          (with_reducible refine (HAm.out _ kW).mono ?_); rintro e w4 ⟨f, rfl, -, kf⟩
          replace bA := bA.kept kf
          replace bB := bB.kept kf
          replace kW := kW.trans kf
          clear kf
          refine hK.out _ _ (kpd.kept kW) (fun hHeld2 => ?_)
          clear hK K hHeld
          have hHeld := hHeld2
          clear hHeld2
          try simp only [Act.put, List.setIfInBounds_toArray, List.set_cons_zero, List.set_cons_succ]
          have hne : b2 ≠ b1 := Blk.ne bB bA (by decide)
          refine wpAnyH_ready (rs := [18]) (by kernel_rfl) (by simp) ?_
          refine AllReadyH_consL (i := 18) rfl (fun K hK => ?_) AllReadyH.nil
          rw [if_pos (by rfl)]
          refine wp_store_row 29 (.tmp 10) (.tmp 25) rfl b1 #[.int .i64 d.kd, .int .i64 d.id, .int .i64 d.enc, .int .i64 d.sig, .int .i64 d.hash, .slice la d.un.length lc] rfl rfl _ _ bA (by kernel_rfl) rfl (ones6a d la d.un.length lc) ?_
          have bA2 : Blk (w4.setRow b1 #[.int .i64 d.kd, .int .i64 d.id, .int .i64 d.enc, .int .i64 d.sig, .int .i64 d.hash, .slice la d.un.length lc]) b1 29 (tnCells d (.slice la d.un.length lc)) := setRow_heap w4 b1 _ #[.int .i64 d.kd, .int .i64 d.id, .int .i64 d.enc, .int .i64 d.sig, .int .i64 d.hash, .slice la d.un.length lc] _ _ bA
          have bB2 : Blk (w4.setRow b1 #[.int .i64 d.kd, .int .i64 d.id, .int .i64 d.enc, .int .i64 d.sig, .int .i64 d.hash, .slice la d.un.length lc]) b2 58 (offL fun _ => false) := by unfold Blk; rw [setRow_other _ _ _ _ hne]; exact bB
          replace kW : Kept wd (w4.setRow b1 #[.int .i64 d.kd, .int .i64 d.id, .int .i64 d.enc, .int .i64 d.sig, .int .i64 d.hash, .slice la d.un.length lc]) := below_setRow kW (by rw [← HZD.out]; exact hA2) _
          generalize w4.setRow b1 #[.int .i64 d.kd, .int .i64 d.id, .int .i64 d.enc, .int .i64 d.sig, .int .i64 d.hash, .slice la d.un.length lc] = w8 at bA2 bB2 kW ⊢
          refine hK.out _ _ (kpd.kept kW) (fun hHeld2 => ?_)
          clear hK K hHeld
          have hHeld := hHeld2
          clear hHeld2
          try simp only [Act.put, List.setIfInBounds_toArray, List.set_cons_zero, List.set_cons_succ]
          refine wpAnyH_ready (rs := [19]) (by kernel_rfl) (by simp) ?_
          refine AllReadyH_consL (i := 19) rfl (fun K hK => ?_) AllReadyH.nil
          rw [if_pos (by rfl)]
          refine wp_store_row 58 (.tmp 11) (.tmp 34) rfl b2 (offL f).toArray rfl rfl _ _ bB2 (by rw [I58.out]; simp [offL_len]) (by simp [offL_len]) (offL_one _) ?_
          have bB3 : Blk (w8.setRow b2 (offL f).toArray) b2 58 (offL f) := setRow_heap w8 b2 _ (offL f).toArray _ _ bB2
          have bA3 : Blk (w8.setRow b2 (offL f).toArray) b1 29 (tnCells d (.slice la d.un.length lc)) := by unfold Blk; rw [setRow_other _ _ _ _ hne.symm]; exact bA2
          replace kW : Kept wd (w8.setRow b2 (offL f).toArray) := below_setRow kW (by rw [← HZD.out]; exact hB2) _
          generalize w8.setRow b2 (offL f).toArray = w9 at bA3 bB3 kW ⊢
          refine hK.out _ _ (kpd.kept kW) (fun hHeld2 => ?_)
          clear hK K hHeld
          have hHeld := hHeld2
          clear hHeld2
          try simp only [Act.put, List.setIfInBounds_toArray, List.set_cons_zero, List.set_cons_succ]
          refine wpAnyH_done (by kernel_rfl) ?_ _
          go_wp2_with fail
          go_meet
          exact ⟨b1, b2, f, rfl, rfl, bA3, bB3, hA, hB, k1d.trans kW⟩
        exact AllReadyH.nil
      exact AllReadyH.nil
    exact AllReadyH.nil
  case rest =>
    obtain ⟨b1, b2, f, rfl, rfl, bA, bB, hA, hB, kc⟩ := hcut
    have H1 := HH.out.plus kc
    have hbl := HH.out.old hb HH.out.inS
    have g1 : Plus S w wc b1 ∧ b1 ≠ hb := ⟨.inr ⟨hA, bA.lt⟩, by omega⟩
    have g2 : Plus S w wc b2 ∧ b2 ≠ hb := ⟨.inr ⟨hB, bB.lt⟩, by omega⟩
    have HF := Lib.hid (hfits_ok (f := f) hn hT (Mth.lvl o) o rfl hox wc H1)
    have hxl : x < ts.length := by rw [hn.mn.len]; exact hx
    have HE := Shut.mk (show ∀ es : List Nd, ds.length ≤ es.length → IsT es (Rt.nd ts x).enc ∧ IsT es (Rt.nd ts x).hash from fun es he => by
      obtain ⟨⟨e1, e2⟩, _⟩ := hm x hxl (by omega)
      exact ⟨e1.isT (by omega), e2.isT (by omega)⟩)
    have HG := Lib.hid (fun (W : World) (es : List Nd) (hs : Hs w0 (Plus S w wc) U W hb p (.slice (some ⟨tb, tf, none⟩) ts.length tc) ts es) h1 h2 => hhash_any (f := f) hn hT hm (Mth.lvl o) o rfl hox (Plus S w wc) W es hs h1 h2)
    have HCN := Shut.mk (cN_le ho5)
    have HL := Shut.mk hl
    have HM := Shut.mk hmd
    have i58 : (Tryz.prog.info? 58).map (·.size) = some (offL f).length := by rw [Tryz.zero58.2, offL_len]
    have iA : (Tryz.prog.info? 58).map (·.size) = some (offL f).toArray.size := by rw [Tryz.zero58.2]; simp [offL_len]
    have u58 := Tryz.underlying58
    have bBh : wc.heap[b2]? = some (.cells (offL f).toArray 58 (0, 0)) := bB
    clear hat hn hT hm hx hk hc hup ho hox ho5 hmd hl HLv HSb hbl hxl hA hB
    generalize cN (Mth.lvl o) = cn at *
    generalize Rt.nd ts x = d at *
    unfold offV at *
    generalize offL f = L at *
    go_wp2_with (refine wpList_load_rowG 58 (.tmp 11) rfl (by rfl) b2 rfl _ L.toArray _ _ bBh Tryz.underlying58 rfl iA ?_)
    (with_reducible refine HF.out.mono ?_); rintro e w2 ⟨rfl, k2⟩
    have kc2 := kc.trans k2
    have H2 := Lib.hid (H1.step k2)
    have A2 := Lib.hid (bA.kept k2)
    have B2 := Lib.hid (bB.kept k2)
    have KP := Lib.hid (fun (w4 : World) (t : Turn (Wk (Plus S w wc) hb) w2 w4) => holdU A2.out B2.out g1 g2 t)
    have kd : Kept w2 w2.drew := (Kept.refl w2).drew
    have kpd := (KP.out _ (Turn.refl _ _)).kept kd
    have C1 := Lib.hid (htext_ok (H2.out.step kd) vouchS (by decide) (by have := HL.out; omega))
    rw [show strB vouchS = ⟨#[118, 111, 117, 99, 104]⟩ from rfl] at C1
    clear HF H1 bA bB bBh iA
    unfold HoldU at kpd
    go_wp2_with fail
    go_region_held3 (fun w' => w'.cell? ⟨b1, 2, none⟩ = some (.int .i64 d.enc) ∧ w'.cell? ⟨b1, 4, none⟩ = some (.int .i64 d.hash) ∧ w'.rangeAt b2 0 L)
      (first
        | (with_reducible exact kpd)
        | (with_reducible exact kp4)
        | (with_reducible exact kp5)
        | (with_reducible exact kp6)
        | (with_reducible exact kp7)
        | (with_reducible exact kp8))
      (first
        | (go_at_call 48; (with_reducible refine C1.out.mono ?_); rintro e w4 ⟨r1, t1, rfl, h4, hr1, hQ1, tt1⟩; have tu1 := Turn.trans (kd.turn (Wk (Plus S w wc) hb)) tt1 (fun b hw => .inl hw); have kp4 := KP.out _ tu1; unfold HoldU at kp4; have C2 := Lib.hid (HG.out _ _ h4 (by have := HM.out; simp only [List.length_append]; omega) (by have := HL.out; have := HCN.out; simp only [List.length_append]; omega)))
        | (go_at_call 28; (with_reducible refine C2.out.mono ?_); rintro e w5 ⟨r2, t2, rfl, h5, hr2, hQ2, tt2⟩; have tu2 := Turn.trans tu1 tt2 (fun b hw => .inl hw); have kp5 := KP.out _ tu2; have k6 : Kept w5 (w5.alloc (.cells #[.int .i64 t1, .int .i64 d.enc, .int .i64 d.hash, .int .i64 t2] 3)) := (Kept.refl w5).alloc _; have kp6 := kp5.kept k6; unfold HoldU at kp5 kp6; have C3 := Lib.hid (hashOf_ok (h5.step k6) (RdI.lit4' w5 t1 d.enc d.hash t2) (by simp) (all4 (hQ1.isT.more r2) (HE.out _ (by simp only [List.length_append]; omega)).1 (HE.out _ (by simp only [List.length_append]; omega)).2 hQ2) (by have := HL.out; have := HCN.out; simp only [List.length_append]; omega)))
        | (go_at_call 47; (with_reducible refine C3.out.mono ?_); rintro e w7 ⟨r3, t3, rfl, h7, hr3, hQ3, tt3⟩; have tu3 := Turn.trans (tu2.kept k6) tt3 (fun b hw => .inl hw); have kp7 := KP.out _ tu3; unfold HoldU at kp7; have C4 := Lib.hid (htold_any h7 t3))
        | (go_at_call 27; (with_reducible refine C4.out.mono ?_); rintro e w8 ⟨rfl, k8⟩; have tu4 := tu3.kept k8; have kp8 := KP.out _ tu4; unfold HoldU at kp8))
    all_goals
      have ea : ds ++ (r1 ++ r2 ++ r3) = ds ++ r1 ++ r2 ++ r3 := by simp
      have EA := Shut.mk ea
      clear ea
      go_wp2
      go_ret2
      refine ⟨r1 ++ r2 ++ r3, t3, rfl, ?_, ?_, ?_, Turn.trans (kc2.turn _) tu4 (fun b hw => .inl (Wk.mono (fun b hb => .inl hb) b hw))⟩
      · rw [EA.out]
        exact (h7.step k8).fewer (fun b hb => .inl hb) (fun b hb => HH.out.arena.base b hb) HH.out.inS (fun b hu => (HH.out.sub b hu).1)
      · have := HCN.out
        simp only [List.length_append]; omega
      · rw [EA.out]
        exact ⟨t1, t2, (hQ1.more r2).more r3, hQ3⟩
end Go.Proofs.YtnmaiokhndbicaaGreatDoor
end

section
/- Walks of package treehash: has, mayBe, isParentOf, Vouch. -/
set_option linter.unusedSimpArgs false
set_option linter.unusedVariables false
namespace Go.Proofs.YtnmaiokhndbicaaGreatDoor
open Go.RowKit Go.Maps

theorem hhas_ok {w0 : World} {S U : Nat → Prop} {w : World} {hb : Nat} {p tv : Value} {ts : List Rt.TN} {ds : List Nd} (h : Hs w0 S U w hb p tv ts ds) {t : Int} (ht : IsT ds t) :
    Calls Tryz.prog 43 #[.pointer (some ⟨hb, 0, none⟩), .int .i64 t] w fun e w' => e = .returned (.bool true) ∧ w = w' := by
  have g0 := h.blk.cell 0
  simp only [List.getElem?_cons_succ, List.getElem?_cons_zero] at g0
  have HLn := Lib.hid (lenA h.arena)
  obtain ⟨t0, t1⟩ := ht
  clear h
  generalize ds.length = m at *
  go_enter Tryz.func43, Tryz.ntmps43
  go_wp2_with ((with_reducible refine HLn.out.mono ?_); rintro e w1 ⟨rfl, rfl⟩)
  go_ret
  exact ⟨rfl, rfl⟩

set_option maxHeartbeats 8000000 in
set_option maxRecDepth 100000 in
theorem hmayBe_ok {w0 : World} {S U : Nat → Prop} {w : World} {hb : Nat} {p tv : Value} {ts : List Rt.TN} {ds : List Nd} {m : Nat} (h : Hs w0 S U w hb p tv ts ds) (hok : ∀ d ∈ ts, TnOk d) (hl : ts.length ≤ 1000) (hun : ∀ d ∈ ts, d.un.length ≤ 1000) (hT : TabsM w0)
    (hc : chkB ts = true) (hm : TermsOk ts m) (hmd : m ≤ ds.length) :
    Calls Tryz.prog 21 #[.pointer (some ⟨hb, 0, none⟩)] w fun e w' => e = .returned (.bool true) ∧ Kept w w' := by
  have HC := Lib.hid (pcheck_any h.rd hok (by omega) hun (hT.kept h.arena.kept))
  rw [hc] at HC
  have HC : Hid (Calls Tryz.prog 42 #[tv] w fun e w' => e = .returned (.int .i64 0) ∧ Kept w w') := HC
  have g1 := h.blk.cell 1
  simp only [List.getElem?_cons_succ, List.getElem?_cons_zero] at g1
  have HH := Lib.hid h
  have HM := Shut.mk (show ∀ x, x < ts.length → (Rt.nd ts x).kd ≠ 0 → (IsT ds (Rt.nd ts x).enc ∧ IsT ds (Rt.nd ts x).hash) ∧ ((Rt.nd ts x).kd = 1 → IsT ds (Rt.nd ts x).id ∧ IsT ds (Rt.nd ts x).sig) from fun x hx h0 => by
    obtain ⟨⟨e1, e2⟩, e3⟩ := hm x hx h0
    exact ⟨⟨e1.isT hmd, e2.isT hmd⟩, fun h1 => ⟨(e3 h1).1.isT hmd, (e3 h1).2.isT hmd⟩⟩)
  have HTr := Lib.hid h.rd
  obtain ⟨ta, tc, rfl, t1, t2, t3⟩ := h.rd.len
  have t63 : ((ts.length : Nat) : Int) ≤ 9223372036854775807 := by omega
  have G1 := Lib.hid (fun W (k : Kept w W) => ((h.blk.kept k).cell 1 : W.cell? ⟨hb, 1, none⟩ = _))
  clear h hm hmd hc hok hun hT
  go_enter Tryz.func21, Tryz.ntmps21
  go_wp2_with fail
  (with_reducible refine HC.out.mono ?_); rintro e w1 ⟨rfl, k1⟩
  have g1' := G1.out w1 k1
  simp only [List.getElem?_cons_succ, List.getElem?_cons_zero] at g1'
  go_wp2
  go_loopw [16] (fun c wr => ∃ k : Nat, k ≤ ts.length ∧ c = .int .i64 k ∧ Kept w wr) (fun c _ => ts.length - (intOf c).toNat)
  case atStart => exact ⟨0, Nat.zero_le _, rfl, k1⟩
  case round =>
    obtain ⟨k, hk, rfl, hkw⟩ := hrel
    by_cases hlt : k < ts.length
    · obtain ⟨zb, zo, zc, za, zcc, hzv, hzat, hzun⟩ := HTr.out.at (k := k) hlt
      simp only [Value.slice.injEq] at hzv
      obtain ⟨rfl, -, rfl⟩ := hzv
      obtain ⟨g0, g1, g2, g3, g4, g5⟩ := hzat _ hkw
      have hM := HM.out k hlt
      have k0 : (0 : Int) ≤ (k : Int) := by omega
      have k1 : (k : Int) < (ts.length : Int) := by omega
      clear hzat hzun
      generalize Rt.nd ts k = d at *
      generalize d.un.length = ul at g5
      have bX : Blk (wr.alloc (.cells #[.int .i64 d.kd, .int .i64 d.id, .int .i64 d.enc, .int .i64 d.sig, .int .i64 d.hash, .slice za ul zcc] 29)) wr.heap.size 29 [.int .i64 d.kd, .int .i64 d.id, .int .i64 d.enc, .int .i64 d.sig, .int .i64 d.hash, .slice za ul zcc] := Blk.new _ _ _
      have kX : Kept w (wr.alloc (.cells #[.int .i64 d.kd, .int .i64 d.id, .int .i64 d.enc, .int .i64 d.sig, .int .i64 d.hash, .slice za ul zcc] 29)) := hkw.alloc _
      have n0 := bX.cell 0
      have n1 := bX.cell 1
      have n2 := bX.cell 2
      have n3 := bX.cell 3
      have n4 := bX.cell 4
      simp only [List.getElem?_cons_succ, List.getElem?_cons_zero] at n0 n1 n2 n3 n4
      have HHas := Lib.hid (fun (t : Int) (ht : IsT ds t) => hhas_ok (HH.out.step kX) ht)
      by_cases e0 : d.kd = 0
      · have z0 : (d.kd != 0) = false := by rw [e0]; rfl
        have z1 : (d.kd == 1) = false := by rw [e0]; rfl
        clear e0 hM
        go_wp2
        go_roundw
        case rel => exact ⟨k + 1, hlt, by go_num, kX⟩
        case measure => simp [intOf]; omega
      · have z0 : (d.kd != 0) = true := by rw [bne_iff_ne]; exact e0
        obtain ⟨⟨m1, m2⟩, m3⟩ := hM e0
        by_cases e1 : d.kd = 1
        · have z1 : (d.kd == 1) = true := by rw [e1]; rfl
          obtain ⟨m4, m5⟩ := m3 e1
          have c1 := Lib.hid (HHas.out _ m1)
          have c2 := Lib.hid (HHas.out _ m2)
          have c3 := Lib.hid (HHas.out _ m4)
          have c4 := Lib.hid (HHas.out _ m5)
          clear e0 e1 hM m1 m2 m3 m4 m5
          go_wp2_with fail
          (with_reducible refine c1.out.mono ?_); rintro e wx ⟨rfl, rfl⟩
          go_wp2_with fail
          (with_reducible refine c2.out.mono ?_); rintro e wx ⟨rfl, rfl⟩
          go_wp2_with fail
          (with_reducible refine c3.out.mono ?_); rintro e wx ⟨rfl, rfl⟩
          go_wp2_with fail
          (with_reducible refine c4.out.mono ?_); rintro e wx ⟨rfl, rfl⟩
          go_wp2
          go_roundw
          case rel => exact ⟨k + 1, hlt, by go_num, kX⟩
          case measure => simp [intOf]; omega
        · have z1 : (d.kd == 1) = false := by rw [beq_eq_false_iff_ne]; exact e1
          have c1 := Lib.hid (HHas.out _ m1)
          have c2 := Lib.hid (HHas.out _ m2)
          clear e0 e1 hM m1 m2 m3
          go_wp2_with fail
          (with_reducible refine c1.out.mono ?_); rintro e wx ⟨rfl, rfl⟩
          go_wp2_with fail
          (with_reducible refine c2.out.mono ?_); rintro e wx ⟨rfl, rfl⟩
          go_wp2
          go_roundw
          case rel => exact ⟨k + 1, hlt, by go_num, kX⟩
          case measure => simp [intOf]; omega
    · have hkn : ¬ (k : Int) < (ts.length : Int) := by omega
      go_wp2
      go_ret
      exact ⟨rfl, hkw⟩
end Go.Proofs.YtnmaiokhndbicaaGreatDoor
end

section
/- Walks of package treehash: isParentOf, Vouch. -/
set_option linter.unusedSimpArgs false
set_option linter.unusedVariables false
namespace Go.Proofs.YtnmaiokhndbicaaGreatDoor
open Go.RowKit Go.Maps

theorem par_ne (x : Nat) : Mth.par x ≠ x := by
  have h : 0 < 2 ^ Mth.lvl x := Nat.pow_pos (by decide)
  unfold Mth.par
  cases hb : Nat.beq (x / 2 ^ (Mth.lvl x + 1) % 2) 0 with
  | true => simp only [cond_true]; omega
  | false =>
    simp only [cond_false]
    by_cases h0 : x = 0
    · subst h0
      simp at hb
    · omega

set_option maxHeartbeats 4000000 in
theorem hisParentOf_yes {w0 : World} {S U : Nat → Prop} {w : World} {hb : Nat} {p tv : Value} {ts : List Rt.TN} {ds : List Nd} {n x c : Nat} (h : Hs w0 S U w hb p tv ts ds) (hT : TabsM w0) (hlen : ts.length = 2 * n - 1) (hbd : 1 ≤ n ∧ n ≤ 256) (hx : x < 2 * n - 1) (hk : (Rt.nd ts x).kd = 2)
    (hc : c < 2 * n - 1) (hup : upB (c : Int) (n : Int) = true) (hp : Mth.par c = x) :
    Calls Tryz.prog 22 #[.pointer (some ⟨hb, 0, none⟩), .int .i64 (x : Int), .int .i64 (c : Int)] w fun e w' => e = .returned (.bool true) ∧ Kept w w' := by
  have hlv : (((ts.length : Int) + 1) / 2) = (n : Int) := by omega
  have HLv := Lib.hid (hleaves_any h (by omega))
  rw [hlv] at HLv
  have HP := Lib.hid (Parent_any (c : Int) (n : Int) w ⟨by omega, by omega⟩ ⟨by omega, by omega⟩ (hT.kept h.arena.kept))
  rw [hup, Int.toNat_natCast, hp] at HP
  have HP : Hid (Calls Tryz.prog 44 #[.int .i64 (c : Int), .int .i64 (n : Int)] w fun e w' => e = .returned (.tuple #[.int .i64 (x : Nat), .int .i64 0]) ∧ Kept w w') := HP
  have G1 := Lib.hid (fun W (k : Kept w W) => ((h.blk.kept k).cell 1 : W.cell? ⟨hb, 1, none⟩ = _))
  obtain ⟨tb, tf, tc, la, lc, htv, hat⟩ := h.cells x (by omega)
  subst htv
  have HK := Lib.hid (fun W (k : Kept w W) => (hat W (k.turn _)).1.1)
  rw [hk] at HK
  have x0 : (0 : Int) ≤ (x : Int) := by omega
  have x1 : (x : Int) < (ts.length : Int) := by omega
  clear hlv hlen hbd hat hx hk hc hup hp h hT
  go_enter Tryz.func22, Tryz.ntmps22
  go_wp2_with fail
  (with_reducible refine HLv.out.mono ?_); rintro e w1 ⟨rfl, rfl⟩
  go_wp2_with fail
  (with_reducible refine HP.out.mono ?_); rintro e w1 ⟨rfl, k1⟩
  have g1 := G1.out w1 k1
  have q0 := HK.out w1 k1
  simp only [List.getElem?_cons_succ, List.getElem?_cons_zero] at g1
  go_wp2
  go_ret
  exact ⟨rfl, k1⟩

set_option maxHeartbeats 4000000 in
theorem hisParentOf_self {w0 : World} {S U : Nat → Prop} {w : World} {hb : Nat} {p tv : Value} {ts : List Rt.TN} {ds : List Nd} {n x : Nat} (h : Hs w0 S U w hb p tv ts ds) (hT : TabsM w0) (hlen : ts.length = 2 * n - 1) (hbd : 1 ≤ n ∧ n ≤ 256) (hx : x < 2 * n - 1) :
    Calls Tryz.prog 22 #[.pointer (some ⟨hb, 0, none⟩), .int .i64 (x : Int), .int .i64 (x : Int)] w fun e w' => e = .returned (.bool false) ∧ Kept w w' := by
  have hlv : (((ts.length : Int) + 1) / 2) = (n : Int) := by omega
  have HLv := Lib.hid (hleaves_any h (by omega))
  rw [hlv] at HLv
  have HP := Lib.hid (Parent_any (x : Int) (n : Int) w ⟨by omega, by omega⟩ ⟨by omega, by omega⟩ (hT.kept h.arena.kept))
  rw [Int.toNat_natCast] at HP
  have hne := par_ne x
  cases hup : upB (x : Int) (n : Int) with
  | true =>
    rw [hup] at HP
    have HP : Hid (Calls Tryz.prog 44 #[.int .i64 (x : Int), .int .i64 (n : Int)] w fun e w' => e = .returned (.tuple #[.int .i64 (Mth.par x : Nat), .int .i64 0]) ∧ Kept w w') := HP
    generalize Mth.par x = y at *
    have hq : ((y : Int) == (x : Int)) = false := by rw [beq_eq_false_iff_ne]; omega
    clear hlv hlen hbd hx h hT hne hup
    go_enter Tryz.func22, Tryz.ntmps22
    go_wp2_with fail
    (with_reducible refine HLv.out.mono ?_); rintro e w1 ⟨rfl, rfl⟩
    go_wp2_with fail
    (with_reducible refine HP.out.mono ?_); rintro e w1 ⟨rfl, k1⟩
    go_wp2
    go_ret
    exact ⟨rfl, k1⟩
  | false =>
    rw [hup] at HP
    have HP : Hid (Calls Tryz.prog 44 #[.int .i64 (x : Int), .int .i64 (n : Int)] w fun e w' => e = .returned (.tuple #[.int .i64 0, .int .i64 1]) ∧ Kept w w') := HP
    clear hlv hlen hbd hx h hT hne hup
    go_enter Tryz.func22, Tryz.ntmps22
    go_wp2_with fail
    (with_reducible refine HLv.out.mono ?_); rintro e w1 ⟨rfl, rfl⟩
    go_wp2_with fail
    (with_reducible refine HP.out.mono ?_); rintro e w1 ⟨rfl, k1⟩
    go_wp2
    go_ret
    exact ⟨rfl, k1⟩

/-- A tree that is handed in: what it is, and that its memory U stays. -/
structure TreeIn (U : Nat → Prop) (w : World) (tv : Value) (ts : List Rt.TN) : Prop where
  tree : ∀ w', Turn (fun b => ¬ U b) w w' → RdTs w' tv ts
  cells : ∀ x, x < ts.length → TreeAt U w tv ts x
theorem TreeIn.rd {U : Nat → Prop} {w : World} {tv : Value} {ts : List Rt.TN} (h : TreeIn U w tv ts) : RdTs w tv ts := h.tree w (Turn.refl _ _)
theorem TreeIn.turn {U : Nat → Prop} {w w' : World} {tv : Value} {ts : List Rt.TN} (h : TreeIn U w tv ts) (k : Turn (fun b => ¬ U b) w w') : TreeIn U w' tv ts :=
  ⟨fun w2 t => h.tree w2 (Turn.trans k t (fun x hx => .inl hx)), fun x hx => (h.cells x hx).turn k⟩
/-- A new hasher. -/
theorem Hs.mk' {w0 : World} {S U : Nat → Prop} {w : World} {p tv : Value} {ts : List Rt.TN} {ds : List Nd} (ha : At w0 S w p ds) (ht : TreeIn U w tv ts) (hU : ∀ b, U b → S b) :
    Hs w0 (Plus S w (w.alloc (.cells #[p, tv, .int .i64 0] 54))) U (w.alloc (.cells #[p, tv, .int .i64 0] 54)) w.heap.size p tv ts ds := by
  have k1 : Kept w (w.alloc (.cells #[p, tv, .int .i64 0] 54)) := (Kept.refl w).alloc _
  have b1 := Blk.new w [p, tv, .int .i64 0] 54
  have t1 := ht.turn (k1.turn _)
  exact ⟨ha.more k1 (fun b hb => by
      rcases hb with hb | hb
      · exact ⟨.inl hb, Nat.lt_of_lt_of_le (ha.old b hb) k1.size⟩
      · exact ⟨.inr hb.1, hb.2⟩) (fun b hb => .inl (ha.base b hb)), b1, .inr ⟨Nat.le_refl _, b1.lt⟩, ha.kept.size, t1.tree, fun b hb => ⟨.inl (hU b hb), fun e => by have := ha.old b (hU b hb); omega⟩, t1.cells⟩
theorem At.back {w0 : World} {S T : Nat → Prop} {w : World} {p : Value} {ds : List Nd} (h : At w0 T w p ds) (hs : ∀ b, S b → T b) (hb : ∀ b, b < w0.heap.size → S b) : At w0 S w p ds :=
  h.more (Kept.refl w) (fun b hb => ⟨.inl (hs b hb), h.old b (hs b hb)⟩) hb
/-- What a Vouch leaves that answers. -/
def PVouchPost (w0 : World) (S : Nat → Prop) (w : World) (p : Value) (ds : List Nd) (enc hash : Int) (e : Ending) (w' : World) : Prop :=
  ∃ (r : List Nd) (t : Int), e = .returned (.tuple #[.int .i64 t, .int .i64 0]) ∧ At w0 S w' p (ds ++ r) ∧ r.length ≤ 1900 ∧ VouchQ enc hash (ds ++ r) t ∧ Keep S w w'
/-- A tree that Vouch is asked of. -/
structure AskV (ts : List Rt.TN) (n m x : Nat) : Prop where
  few : FewTree ts n
  oks : ∀ d ∈ ts, TnOk d
  len : ts.length ≤ 70
  chk : chkB ts = true
  terms : TermsOk ts m
  hx : x < 2 * n - 1
  par : (Rt.nd ts x).kd = 2
theorem AskV.un {ts : List Rt.TN} {n m x : Nat} (h : AskV ts n m x) : ∀ d ∈ ts, d.un.length ≤ 1000 := fun d hd => by
  obtain ⟨i, hi, rfl⟩ := List.mem_iff_getElem.1 hd
  have := h.few.un i (by rw [← h.few.mn.len]; exact hi)
  rw [Rt.nd_get hi] at this
  omega

set_option maxHeartbeats 4000000 in
set_option maxRecDepth 100000 in
theorem PVouch_ok {w0 : World} {S U : Nat → Prop} {w : World} {p tv : Value} {ts : List Rt.TN} {ds : List Nd} {n m x c o : Nat} (hq : AskV ts n m x) (ha : At w0 S w p ds) (ht : TreeIn U w tv ts) (hU : ∀ b, U b → S b) (hT : TabsM w0)
    (hc : c < 2 * n - 1) (hup : upB (c : Int) (n : Int) = true) (hp : Mth.par c = x) (ho : Mth.sib c = o) (hox : o < 2 * n - 1) (ho5 : Mth.lvl o ≤ 5) (hmd : m ≤ ds.length) (hl : ds.length + 2000 < 100000) :
    Calls Tryz.prog 9 #[p, tv, .int .i64 (x : Int), .int .i64 (c : Int)] w (PVouchPost w0 S w p ds (Rt.nd ts x).enc (Rt.nd ts x).hash) := by
  have hs := Hs.mk' ha ht hU
  have k1 : Kept w (w.alloc (.cells #[p, tv, .int .i64 0] 54)) := (Kept.refl w).alloc _
  have hlen := hq.len
  have hsz1 : w.heap.size < (w.alloc (.cells #[p, tv, .int .i64 0] 54)).heap.size := hs.blk.lt
  have HB := Lib.hid (hmayBe_ok hs hq.oks (by omega) hq.un hT hq.chk hq.terms hmd)
  have HI := Lib.hid (fun W (k : Kept (w.alloc (.cells #[p, tv, .int .i64 0] 54)) W) => hisParentOf_yes (hs.step k) hT hq.few.mn.len hq.few.bd hq.hx hq.par hc hup hp)
  have HV := Lib.hid (fun W (k : Kept (w.alloc (.cells #[p, tv, .int .i64 0] 54)) W) => hvouch_ok hq.few hT hq.terms (hs.step k) hq.hx hq.par hc hup ho hox ho5 hmd hl)
  obtain ⟨ta, tc, rfl, _, _, _⟩ := ht.rd.len
  obtain ⟨F, hF, hF2⟩ := ha.ar
  obtain ⟨pb, mb, nv, rfl, _, _, _⟩ := hF.nodes
  have HA := Lib.hid ha
  have HSZ := Shut.mk hsz1
  clear hs hq ht hU hT hc hup hp ho hox ho5 hmd hl hlen hF hF2 ha hsz1
  generalize (Rt.nd ts x).enc = enc at *
  generalize (Rt.nd ts x).hash = hash at *
  go_enter Tryz.func9, Tryz.ntmps9
  go_wp2_with fail
  (with_reducible refine HB.out.mono ?_); rintro e w2 ⟨rfl, k2⟩
  go_wp2_with fail
  (with_reducible refine (HI.out _ k2).mono ?_); rintro e w3 ⟨rfl, k3⟩
  have k23 := k2.trans k3
  go_wp2_with fail
  (with_reducible refine (HV.out _ k23).mono ?_); rintro e w4 ⟨r, t, rfl, h4, hr, hQ, t4⟩
  go_wp2
  go_ret2
  refine ⟨r, t, rfl, h4.arena.back (fun b hb => .inl hb) HA.out.base, hr, hQ, ?_⟩
  exact Turn.trans ((k1.trans k23).turn _) t4 (fun b hw => by
    rcases hw with c | c
    · exact .inl fun c2 => c (.inl c2)
    · exact .inr (by omega))

set_option maxHeartbeats 4000000 in
set_option maxRecDepth 100000 in
theorem PVouch_self {w0 : World} {S U : Nat → Prop} {w : World} {p tv : Value} {ts : List Rt.TN} {ds : List Nd} {n m x : Nat} (hq : AskV ts n m x) (ha : At w0 S w p ds) (ht : TreeIn U w tv ts) (hU : ∀ b, U b → S b) (hT : TabsM w0) (hmd : m ≤ ds.length) :
    Calls Tryz.prog 9 #[p, tv, .int .i64 (x : Int), .int .i64 (x : Int)] w fun e w' => e = .returned (.tuple #[.int .i64 0, .int .i64 1]) ∧ Kept w w' := by
  have hs := Hs.mk' ha ht hU
  have k1 : Kept w (w.alloc (.cells #[p, tv, .int .i64 0] 54)) := (Kept.refl w).alloc _
  have hlen := hq.len
  have HB := Lib.hid (hmayBe_ok hs hq.oks (by omega) hq.un hT hq.chk hq.terms hmd)
  have HI := Lib.hid (fun W (k : Kept (w.alloc (.cells #[p, tv, .int .i64 0] 54)) W) => hisParentOf_self (hs.step k) hT hq.few.mn.len hq.few.bd hq.hx)
  obtain ⟨ta, tc, rfl, _, _, _⟩ := ht.rd.len
  obtain ⟨F, hF, hF2⟩ := ha.ar
  obtain ⟨pb, mb, nv, rfl, _, _, _⟩ := hF.nodes
  clear hs hq ht hU hT hmd hlen hF hF2 ha
  go_enter Tryz.func9, Tryz.ntmps9
  go_wp2_with fail
  (with_reducible refine HB.out.mono ?_); rintro e w2 ⟨rfl, k2⟩
  go_wp2_with fail
  (with_reducible refine (HI.out _ k2).mono ?_); rintro e w3 ⟨rfl, k3⟩
  go_wp2
  go_ret2
  exact ⟨rfl, k1.trans (k2.trans k3)⟩
end Go.Proofs.YtnmaiokhndbicaaGreatDoor
end

section
/- Plain facts of the statement HashVouches; a tree's copy of which one Enc is written. -/
set_option linter.unusedSimpArgs false
set_option linter.unusedVariables false
namespace Go.Proofs.YtnmaiokhndbicaaGreatDoor
open Go.RowKit Go.Maps

/-! ## children -/
structure KidV (n x c o : Nat) : Prop where
  hc : c < 2 * n - 1
  up : upB (c : Int) (n : Int) = true
  par : Mth.par c = x
  sib : Mth.sib c = o
  ho : o < 2 * n - 1
  lo : Mth.lvl o ≤ 5
theorem lvl_small {o : Nat} (h : o < 63) : Mth.lvl o ≤ 5 := by
  have := List.all_eq_true.1 (show ((List.range 63).all fun o => Nat.ble (Mth.lvl o) 5) = true by decide +kernel) o (List.mem_range.2 h)
  exact Nat.le_of_ble_eq_true this
theorem fulls_small {n : Nat} (hn : n ∈ Mth.fulls) (h : 2 * n - 1 ≤ 70) : n ≤ 32 := by
  simp only [Mth.fulls, List.mem_cons, List.not_mem_nil, or_false] at hn
  omega
theorem up_of {n c : Nat} (hn : n ∈ Mth.fulls) (hc : c < 2 * n - 1) (hne : c ≠ n - 1) : upB (c : Int) (n : Int) = true := by
  have h1 := inB_mk (x := (c : Int)) (treeB_mk hn) (by omega) (by omega)
  have hb := Rt.fulls_le hn
  unfold upB
  rw [h1, Bool.true_and, bne_iff_ne]
  omega
theorem kids_v {n x : Nat} (hn : n ∈ Mth.fulls) (h70 : 2 * n - 1 ≤ 70) (hx : x < 2 * n - 1) (hl : 0 < Mth.lvl x) : KidV n x (Mth.left x) (Mth.right x) ∧ KidV n x (Mth.right x) (Mth.left x) := by
  have h32 := fulls_small hn h70
  obtain ⟨k1, k2⟩ := Rt.kids_in hn hx hl
  obtain ⟨l1, l2, l3, l4⟩ := Rt.kids_lvl (x := x) (by omega) hl
  obtain ⟨_, _, _, _, _, _, p1, p2, s1, s2⟩ := Mth.kids_leaves (x := x) (by omega) hl
  have tp := (Mth.top_at hn hx).le
  have r1 : Mth.left x ≠ n - 1 := fun e => by rw [← e] at tp; omega
  have r2 : Mth.right x ≠ n - 1 := fun e => by rw [← e] at tp; omega
  exact ⟨⟨k1, up_of hn k1 r1, p1, s1, k2, lvl_small (by omega)⟩, ⟨k2, up_of hn k2 r2, p2, s2, k1, lvl_small (by omega)⟩⟩

/-! ## one Enc is another one -/
def setE (t : List Rt.TN) (x : Nat) (e : Int) : List Rt.TN := t.set x { Rt.nd t x with enc := e }
theorem setE_len (t : List Rt.TN) (x : Nat) (e : Int) : (setE t x e).length = t.length := List.length_set
theorem setE_nd {t : List Rt.TN} {x : Nat} {e : Int} (hx : x < t.length) (y : Nat) : Rt.nd (setE t x e) y = if y = x then { Rt.nd t x with enc := e } else Rt.nd t y := nd_set hx
theorem setE_kd {t : List Rt.TN} {x : Nat} {e : Int} (hx : x < t.length) (y : Nat) : (Rt.nd (setE t x e) y).kd = (Rt.nd t y).kd ∧ (Rt.nd (setE t x e) y).un = (Rt.nd t y).un ∧ (Rt.nd (setE t x e) y).id = (Rt.nd t y).id ∧ (Rt.nd (setE t x e) y).sig = (Rt.nd t y).sig := by
  rw [setE_nd hx]
  by_cases c : y = x
  · subst c; rw [if_pos rfl]; exact ⟨rfl, rfl, rfl, rfl⟩
  · rw [if_neg c]; exact ⟨rfl, rfl, rfl, rfl⟩
theorem setE_may {t : List Rt.TN} {x n : Nat} {e : Int} (hx : x < t.length) (h2 : (Rt.nd t x).kd = 2) (h : Rt.MayN t n) : Rt.MayN (setE t x e) n := by
  have hk := fun y => setE_kd (e := e) hx y
  have hlk : ∀ j, Rt.lk (setE t x e) j = Rt.lk t j := fun j => by unfold Rt.lk; rw [(hk _).1]
  refine ⟨h.hn, by rw [setE_len]; exact h.len, fun y hy h0 => ?_, fun y hy h0 he => ?_, fun y hy h0 ho => ?_⟩
  · rw [(hk y).1] at h0
    rw [setE_nd hx, if_neg (fun c => by subst c; omega)]
    exact h.blank y hy h0
  · rw [(hk y).1] at h0
    rw [(hk y).1, (hk y).2.1]
    exact h.leaf y hy h0 he
  · rw [(hk y).1] at h0
    obtain ⟨a1, a2, a3, a4, a5⟩ := h.par y hy h0 ho
    rw [(hk y).1, (hk y).2.1, (hk y).2.2.1, (hk y).2.2.2]
    refine ⟨a1, a2, a3, a4, fun i hi => ?_⟩
    obtain ⟨j, rfl, b1, b2, b3, b4⟩ := a5 i hi
    refine ⟨j, rfl, b1, b2, by rw [hlk]; exact b3, fun z hz hz2 hzx hzj hzu => ?_⟩
    rw [(hk z).1] at hz2
    rw [(hk z).2.1]
    exact b4 z hz hz2 hzx hzj hzu
theorem setE_chk {t : List Rt.TN} {x : Nat} {e : Int} (hx : x < t.length) (h2 : (Rt.nd t x).kd = 2) (h : chkB t = true) : chkB (setE t x e) = true := by
  have hm := chkB_may.1 h
  rw [chkB_may, setE_len]
  have hlk : ∀ j, Rt.lk (setE t x e) j = Rt.lk t j := fun j => by unfold Rt.lk; rw [(setE_kd hx _).1]
  obtain ⟨i, hi, hl⟩ := hm.some'
  refine ⟨setE_may hx h2 hm.mn, ⟨i, hi, by rw [hlk]; exact hl⟩, ?_⟩
  rcases hm.right with c | ⟨i, a, b, c⟩
  · exact .inl c
  · exact .inr ⟨i, a, b, by rw [hlk]; exact c⟩
theorem ask_set {t : List Rt.TN} {n m x : Nat} {e : Int} (h : AskV t n m x) (he : Tm m e) (h64 : I64 e) : AskV (setE t x e) n m x := by
  have hx : x < t.length := by rw [h.few.mn.len]; exact h.hx
  refine ⟨⟨setE_may hx h.par h.few.mn, fun y hy => by rw [(setE_kd hx y).2.1]; exact h.few.un y hy⟩, fun d hd => ?_, by rw [setE_len]; exact h.len, setE_chk hx h.par h.chk, fun y hy h0 => ?_, h.hx, by rw [(setE_kd hx x).1]; exact h.par⟩
  · rcases List.mem_or_eq_of_mem_set hd with c | rfl
    · exact h.oks d c
    · have := h.oks (Rt.nd t x) (by rw [Rt.nd_get hx]; exact List.getElem_mem hx)
      exact ⟨this.kd, this.id, h64, this.sig, this.hash, this.un⟩
  · rw [setE_len] at hy
    rw [(setE_kd hx y).1] at h0
    have ht := h.terms y hy h0
    rw [setE_nd hx]
    by_cases c : y = x
    · subst c
      rw [if_pos rfl]
      exact ⟨⟨he, ht.1.2⟩, ht.2⟩
    · rw [if_neg c]; exact ht

/-! ## what two children say -/
theorem vouch_ne {ds r : List Nd} {e1 e2 h1 h2 v y : Int} (hv : VouchQ e1 h1 ds v) (hy : VouchQ e2 h2 (ds ++ r) y) (hne : e2 ≠ e1) : y ≠ v := fun c => by
  subst c
  obtain ⟨a, b, _, x1, i1, j1⟩ := hv
  obtain ⟨a', b', _, x2, i2, j2⟩ := hy
  have e := (j1.more r).node j2
  injection e with _ _ _ e
  injection e with e _
  subst e
  have e := (i1.more r).node i2
  injection e with _ _ _ e
  injection e with _ e
  injection e with e _
  exact hne e.symm
theorem VouchQ.more {e h : Int} {ds : List Nd} {t : Int} (hv : VouchQ e h ds t) (r : List Nd) : VouchQ e h (ds ++ r) t := by
  obtain ⟨a, b, ha, hq⟩ := hv
  exact ⟨a, b, ha.more r, hq.more r⟩
theorem VouchQ.isT {e h : Int} {ds : List Nd} {t : Int} (hv : VouchQ e h ds t) : IsT ds t := by
  obtain ⟨a, b, ha, hq⟩ := hv
  exact hq.isT

/-! ## trees that are handed in -/
theorem RdTs.treeIn {W w : World} {tv : Value} {t : List Rt.TN} (h : RdTs W tv t) (k : Kept W w) : TreeIn (fun b => b < W.heap.size) w tv t :=
  ⟨fun w' hk => h.kept (Turn.keptOf k hk (fun b hb => by omega)), fun x hx => h.treeAt _ (fun b hb => hb) k hx⟩
theorem OwnT.turn {B : Nat} {w w' : World} {v : Value} {ds : List Rt.TN} {lvs : List Value} {F : Nat → Prop} (h : OwnT B w v ds lvs) (k : Turn F w w') (hF : ∀ b, B ≤ b → b < w.heap.size → ¬ F b) : OwnT B w' v ds lvs :=
  ⟨Ownv.turn h.row k (fun b hb => hF b (Ownv.lt h.row hb).2 (Ownv.lt h.row hb).1), h.len, fun i hi => Ownv.turn (h.un i hi) k (fun b hb => hF b (Ownv.lt (h.un i hi) hb).2 (Ownv.lt (h.un i hi) hb).1), h.apart⟩
theorem OwnT.treeIn {B : Nat} {w : World} {v : Value} {ds : List Rt.TN} {lvs : List Value} (h : OwnT B w v ds lvs) : TreeIn (fun b => B ≤ b ∧ b < w.heap.size) w v ds := by
  have key : ∀ w', Turn (fun b => ¬ (B ≤ b ∧ b < w.heap.size)) w w' → OwnT B w' v ds lvs := fun w' t => h.turn t (fun b h1 h2 c => c ⟨h1, h2⟩)
  refine ⟨fun w' t => (key w' t).rd, fun x hx => ?_⟩
  obtain ⟨g, cap, rfl, _, _, _, _⟩ := Ownv.addr0 h.row (by rw [tflat_length]; omega)
  obtain ⟨la, lc, hlv, _, _, _⟩ := (OwnI.rd (h.un x hx)).len
  refine ⟨g, 0, cap, la, lc, rfl, fun w' t => ?_⟩
  have k := key w' t
  rw [← hlv]
  refine ⟨?_, OwnI.rd (k.un x hx)⟩
  have hc : ∀ j u, j < 6 → (tnCells (Rt.nd ds x) (lvs.getD x undef))[j]? = some u → w'.cell? ⟨g, 0 + x * 6 + j, none⟩ = some u := fun j u hj hu => by
    rw [Nat.zero_add]
    exact Ownv.cell0 k.row (x * 6 + j) ((tflat_at ds lvs x j hx hj).trans hu)
  exact ⟨hc 0 _ (by omega) rfl, hc 1 _ (by omega) rfl, hc 2 _ (by omega) rfl, hc 3 _ (by omega) rfl, hc 4 _ (by omega) rfl, hc 5 _ (by omega) rfl⟩
theorem tflat_setE {t : List Rt.TN} {lvs : List Value} (hl : lvs.length = t.length) {x : Nat} (hx : x < t.length) (e : Int) : (tflat t lvs).set (x * 6 + 2) (.int .i64 e) = tflat (setE t x e) lvs := by
  refine List.ext_getElem? fun q => ?_
  by_cases hq : q < t.length * 6
  · have eq : q = q / 6 * 6 + q % 6 := by omega
    have h6 : q % 6 < 6 := by omega
    have hi : q / 6 < t.length := by omega
    generalize q / 6 = i at eq hi
    generalize q % 6 = j at eq h6
    subst eq
    rw [tflat_at (setE t x e) lvs i j (by rw [setE_len]; exact hi) h6, setE_nd hx, List.getElem?_set, tflat_length]
    by_cases c : i = x
    · subst c
      rw [if_pos rfl]
      by_cases c2 : j = 2
      · subst c2
        rw [if_pos rfl, if_pos (by omega)]
        rfl
      · rw [if_neg (by omega), tflat_at t lvs i j hi h6]
        have : j = 0 ∨ j = 1 ∨ j = 3 ∨ j = 4 ∨ j = 5 := by omega
        rcases this with rfl | rfl | rfl | rfl | rfl <;> rfl
    · rw [if_neg c, if_neg (by omega)]
      exact tflat_at t lvs i j hi h6
  · rw [List.getElem?_eq_none (by rw [List.length_set, tflat_length]; omega), List.getElem?_eq_none (by rw [tflat_length, setE_len]; omega)]
theorem OwnT.setE {B g cap : Nat} {w : World} {t : List Rt.TN} {lvs : List Value} (h : OwnT B w (.slice (some ⟨g, 0, none⟩) t.length cap) t lvs) {x : Nat} (hx : x < t.length) (e : Int) :
    OwnT B (w.setCell ⟨g, x * 6 + 2, none⟩ (.int .i64 e)) (.slice (some ⟨g, 0, none⟩) t.length cap) (setE t x e) lvs := by
  have h1 := Ownv.put h.row (i := x * 6 + 2) (by omega) (.int .i64 e)
  rw [tflat_setE h.len hx] at h1
  refine ⟨by rw [setE_len]; exact h1, by rw [setE_len]; exact h.len, fun i hi => ?_, fun i j hi hj => h.apart i j (by rw [setE_len] at hi; exact hi) (by rw [setE_len] at hj; exact hj)⟩
  rw [setE_len] at hi
  rw [(setE_kd hx i).2.1]
  exact Ownv.setCell (ad := ⟨g, x * 6 + 2, none⟩) (h.un i hi) (fun hb => Ownv.apart (h.un i hi) h.row (by decide) hb rfl) _

/-! ## half of the way to a child -/
theorem AskV.lvl {t : List Rt.TN} {n m x : Nat} (h : AskV t n m x) : 0 < Mth.lvl x := by
  have hb := h.few.bd
  by_cases he : x % 2 = 0
  · have := (h.few.mn.leaf x h.hx (by rw [h.par]; decide) he).1
    rw [h.par] at this
    cases this
  · have := (Rt.even_node (x := x) (by have := h.hx; omega)).1
    omega
def halfB (y : Nat) : Bool := Nat.beq (Mth.lvl y) 0 || (bits BinOp.and IntKind.i64 ((y : Int) + 1) (bits BinOp.xor IntKind.i64 (-1) (y : Int)) == ((2 ^ Mth.lvl y : Nat) : Int))
theorem half_all : ((List.range 70).all halfB) = true := by decide +kernel
theorem half_facts {y : Nat} (hy : y < 70) (hl : 0 < Mth.lvl y) : ∃ s : Nat, wrap64 ((bits BinOp.and IntKind.i64 ((y : Int) + 1) (bits BinOp.xor IntKind.i64 (-1) (y : Int))).tdiv 2) = (s : Int) ∧ wrap64 ((y : Int) - (s : Int)) = (Mth.left y : Nat) ∧ wrap64 ((y : Int) + (s : Int)) = (Mth.right y : Nat) := by
  have h := List.all_eq_true.1 half_all y (List.mem_range.2 hy)
  unfold halfB at h
  rw [Bool.or_eq_true] at h
  rcases h with h | h
  · have := Nat.eq_of_beq_eq_true h; omega
  · have h := eq_of_beq h
    obtain ⟨p1, p2⟩ := lvl_pow (x := y) (by omega) hl
    obtain ⟨n1, n2, _⟩ := left_num (x := y) (by omega) hl
    have e : 2 ^ Mth.lvl y = 2 * 2 ^ (Mth.lvl y - 1) := by
      rw [← Nat.pow_succ']
      congr 1
      omega
    refine ⟨2 ^ (Mth.lvl y - 1), ?_, ?_, ?_⟩
    · rw [h, e]
      clear n1 n2 h e
      generalize 2 ^ (Mth.lvl y - 1) = s at *
      rw [Int.tdiv_eq_ediv_of_nonneg (by omega), show ((2 * s : Nat) : Int) / 2 = (s : Int) by omega]
      exact IntWalk.wrap64_in _ (by omega)
    · rw [n1]
      have : Mth.left y < 511 := by unfold Mth.left; omega
      exact IntWalk.wrap64_in _ (by omega)
    · rw [n2]
      have : Mth.right y < 511 := by unfold Mth.right; exact p2
      exact IntWalk.wrap64_in _ (by omega)
/-- The next Enc. -/
theorem next_enc {e : Int} (h : Tm 10 e) : ∃ e2, (e + 1).tmod 9 = e2 ∧ Tm 10 e2 ∧ e2 ≠ e ∧ I64 e2 := by
  obtain ⟨a, b⟩ := h
  have : e = 0 ∨ e = 1 ∨ e = 2 ∨ e = 3 ∨ e = 4 ∨ e = 5 ∨ e = 6 ∨ e = 7 ∨ e = 8 ∨ e = 9 := by omega
  rcases this with rfl | rfl | rfl | rfl | rfl | rfl | rfl | rfl | rfl | rfl
  · exact ⟨1, rfl, ⟨by decide, by decide⟩, by decide, ⟨by decide, by decide⟩⟩
  · exact ⟨2, rfl, ⟨by decide, by decide⟩, by decide, ⟨by decide, by decide⟩⟩
  · exact ⟨3, rfl, ⟨by decide, by decide⟩, by decide, ⟨by decide, by decide⟩⟩
  · exact ⟨4, rfl, ⟨by decide, by decide⟩, by decide, ⟨by decide, by decide⟩⟩
  · exact ⟨5, rfl, ⟨by decide, by decide⟩, by decide, ⟨by decide, by decide⟩⟩
  · exact ⟨6, rfl, ⟨by decide, by decide⟩, by decide, ⟨by decide, by decide⟩⟩
  · exact ⟨7, rfl, ⟨by decide, by decide⟩, by decide, ⟨by decide, by decide⟩⟩
  · exact ⟨8, rfl, ⟨by decide, by decide⟩, by decide, ⟨by decide, by decide⟩⟩
  · exact ⟨0, rfl, ⟨by decide, by decide⟩, by decide, ⟨by decide, by decide⟩⟩
  · exact ⟨1, rfl, ⟨by decide, by decide⟩, by decide, ⟨by decide, by decide⟩⟩
end Go.Proofs.YtnmaiokhndbicaaGreatDoor
end

section
/- Walks of package treehash: Hash of a leaf's node; the statements' live. -/
set_option linter.unusedSimpArgs false
set_option linter.unusedVariables false
namespace Go.Proofs.YtnmaiokhndbicaaGreatDoor
open Go.RowKit Go.Maps

/-- What Hash of a leaf's node leaves. -/
def PHashPost (w0 : World) (S : Nat → Prop) (w : World) (p : Value) (ds : List Nd) (d : Rt.TN) (j : Nat) (l : List Int) (e : Ending) (w' : World) : Prop :=
  ∃ (f : Nat → Bool) (r : List Nd) (t : Int), e = .returned (.tuple #[.int .i64 t, .int .i64 0]) ∧ At w0 S w' p (ds ++ r) ∧ r.length ≤ 6 ∧ LeafH d j (f j) (ds ++ r) t ∧ Keep S w w' ∧ ∀ i, f i = true → (i : Int) ∈ l
set_option maxHeartbeats 8000000 in
set_option maxRecDepth 100000 in
theorem PHash_leaf {w0 : World} {S U : Nat → Prop} {w : World} {p tv lv : Value} {ts : List Rt.TN} {ds : List Nd} {n m x j : Nat} {l : List Int} (hn : FewTree ts n) (hok : ∀ d ∈ ts, TnOk d) (hlen : ts.length ≤ 1000) (hun : ∀ d ∈ ts, d.un.length ≤ 1000) (hch : chkB ts = true) (htm : TermsOk ts m)
    (ha : At w0 S w p ds) (ht : TreeIn U w tv ts) (hU : ∀ b, U b → S b) (hT : TabsM w0) (hxj : x = 2 * j) (hx : x < 2 * n - 1) (hl0 : Mth.lvl x = 0) (hr : RdI w lv l) (hmd : m ≤ ds.length) (hl : ds.length + 6 < 100000) :
    Calls Tryz.prog 11 #[p, tv, .int .i64 (x : Int), lv] w (PHashPost w0 S w p ds (Rt.nd ts x) j l) := by
  have hs := Hs.mk' ha ht hU
  have k1 : Kept w (w.alloc (.cells #[p, tv, .int .i64 0] 54)) := (Kept.refl w).alloc _
  have hsz1 : w.heap.size < (w.alloc (.cells #[p, tv, .int .i64 0] 54)).heap.size := hs.blk.lt
  have hxl : x < ts.length := by rw [hn.mn.len]; exact hx
  have HA2 := Lib.hid (among_any (hr.kept k1))
  have HB := Lib.hid (fun W (k : Kept (w.alloc (.cells #[p, tv, .int .i64 0] 54)) W) => hmayBe_ok (hs.step k) hok (by omega) hun hT hch htm hmd)
  have HN := Lib.hid (fun W (k : Kept (w.alloc (.cells #[p, tv, .int .i64 0] 54)) W) => hisNode_any (hs.step k) x hxl)
  have HF := Lib.hid (fun (f : Nat → Bool) W (k : Kept (w.alloc (.cells #[p, tv, .int .i64 0] 54)) W) => hfits_ok (f := f) hn hT (Mth.lvl x) x rfl hx W (hs.step k))
  have hev := (Rt.even_node (x := x) (by have := hn.bd; omega)).1.2 hl0
  have hterm : (Rt.nd ts x).kd ≠ 0 → IsT ds (Rt.nd ts x).id ∧ IsT ds (Rt.nd ts x).enc ∧ IsT ds (Rt.nd ts x).sig ∧ IsT ds (Rt.nd ts x).hash := fun h0 => by
    have h1 := (hn.mn.leaf x hx h0 hev).1
    obtain ⟨⟨e1, e2⟩, e3⟩ := htm x hxl h0
    exact ⟨(e3 h1).1.isT hmd, e1.isT hmd, (e3 h1).2.isT hmd, e2.isT hmd⟩
  have HH := Lib.hid (fun (f : Nat → Bool) W (k : Kept (w.alloc (.cells #[p, tv, .int .i64 0] 54)) W) => hhash_leaf (f := f) hn hT (hs.step k) hxj hx hl0 hterm hl)
  have HT := Lib.hid (fun (es : List Nd) W (h : Hs w0 (Plus S w (w.alloc (.cells #[p, tv, .int .i64 0] 54))) U W w.heap.size p tv ts es) (t : Int) => htold_any h t)
  obtain ⟨ta, tc, rfl, _, _, _⟩ := ht.rd.len
  obtain ⟨va, vc, rfl, _, _, _⟩ := hr.len
  obtain ⟨F, hF, hF2⟩ := ha.ar
  obtain ⟨pb, mb, nv, rfl, _, _, _⟩ := hF.nodes
  have HA := Lib.hid ha
  have HSZ := Shut.mk hsz1
  obtain ⟨v58, i58⟩ := Tryz.zero58
  have I58 := Shut.mk i58
  unfold offV at v58
  obtain ⟨Z, HZ⟩ : ∃ Z, Shut (Z = (offL fun _ => false).toArray) := ⟨_, ⟨rfl⟩⟩
  rw [← HZ.out] at v58
  have x0 : (0 : Int) ≤ (x : Int) := by omega
  clear hs ht hU hT hxj hx hl0 hr hmd hl hn hok hlen hun hch htm hF hF2 ha hsz1 hxl hev hterm i58
  generalize Rt.nd ts x = d at *
  go_enter Tryz.func11, Tryz.ntmps11
  go_wp2_with fail
  generalize hw1 : w.alloc (.cells #[.pointer (some ⟨pb, 0, none⟩), .slice ta ts.length tc, .int .i64 0] 54) = w1 at *
  (with_reducible refine HA2.out.mono ?_); rintro e w2 ⟨f, rfl, hfin, k2⟩
  have HFI := Shut.mk hfin
  clear hfin
  have hZ := Blk.new w2 (offL fun _ => false) 58
  rw [← HZ.out] at hZ
  have k3 : Kept w2 (w2.alloc (.cells Z 58)) := (Kept.refl w2).alloc _
  have k13 := k2.trans k3
  have hb3 := setRow_heap (w2.alloc (.cells Z 58)) w2.heap.size _ (offL f).toArray _ _ hZ
  have k14 : Kept w1 ((w2.alloc (.cells Z 58)).setRow w2.heap.size (offL f).toArray) := below_setRow k13 k2.size _
  unfold offV at *
  clear hw1
  go_wp2_with (refine wpList_store_row rfl 58 (.tmp 11) (.tmp 16) rfl w2.heap.size (offL f).toArray rfl rfl _ _ hZ (by rw [I58.out]; simp [offL_len]) (by simp [offL_len]) (offL_one _) ?_)
  generalize (w2.alloc (.cells Z 58)).setRow w2.heap.size (offL f).toArray = w4 at *
  have b4 : Blk w4 w2.heap.size 58 (offL f) := hb3
  have iA : (Tryz.prog.info? 58).map (·.size) = some (offL f).toArray.size := by rw [I58.out]; simp [offL_len]
  (with_reducible refine (HB.out _ k14).mono ?_); rintro e w5 ⟨rfl, k5⟩
  have k15 := k14.trans k5
  have b5 := b4.kept k5
  have HFf := Lib.hid (HF.out f)
  have HHf := Lib.hid (HH.out f)
  clear HF HH hZ k3 k13 hb3 k2 b4 v58
  generalize hA : (offL f).toArray = A at *
  have bA5 : w5.heap[w2.heap.size]? = some (.cells A 58 (0, 0)) := by rw [← hA]; exact b5
  clear hA
  go_wp2_with fail
  (with_reducible refine (HN.out _ k15).mono ?_); rintro e wx ⟨rfl, rfl⟩
  go_wp2_with (refine wpList_load_rowG 58 (.tmp 11) rfl (by rfl) w2.heap.size rfl _ A _ _ bA5 Tryz.underlying58 rfl iA ?_)
  (with_reducible refine (HFf.out _ k15).mono ?_); rintro e w6 ⟨rfl, k6⟩
  have k16 := k15.trans k6
  have bA6 : w6.heap[w2.heap.size]? = some (.cells A 58 (0, 0)) := (k6.block _ (Array.getElem?_eq_some_iff.1 bA5).1).trans bA5
  clear bA5
  go_wp2_with (refine wpList_load_rowG 58 (.tmp 11) rfl (by rfl) w2.heap.size rfl _ A _ _ bA6 Tryz.underlying58 rfl iA ?_)
  (with_reducible refine (HHf.out _ k16).mono ?_); rintro e w7 ⟨r, t, rfl, h7, hr7, hQ7, t7⟩
  have HTt := Lib.hid (HT.out _ _ h7 t)
  go_wp2_with fail
  (with_reducible refine HTt.out.mono ?_); rintro e w8 ⟨rfl, k8⟩
  go_wp2
  go_ret2
  refine ⟨f, r, t, rfl, (h7.arena.step k8).back (fun b hb => .inl hb) HA.out.base, hr7, hQ7, ?_, HFI.out⟩
  exact (Turn.trans ((k1.trans k16).turn _) t7 (fun b hw => by
    rcases hw with c | c
    · exact .inl fun c2 => c (.inl c2)
    · exact .inr (by omega))).kept k8

/-! ## live -/
theorem is_shw {ds : List Nd} (hg : Good ds) {t : Int} {d : Nd} (h : Is ds t d) : shw ds t = one (shw ds) d := by
  rw [shw_eq hg h.lo h.hi, h.eq]
def lf9 : Rt.TN := ⟨1, 1, 2, 3, 4, []⟩
def liveS : List UInt8 := [104, 97, 115, 104, 40, 108, 105, 115, 116, 40, 34, 108, 101, 97, 102, 34, 44, 34, 48, 34, 44, 108, 105, 115, 116, 40, 35, 49, 44, 35, 50, 44, 35, 51, 44, 35, 52, 41, 41, 41]
theorem itoa9 : Lib.itoa 0 = [48] ∧ Lib.itoa 1 = [49] ∧ Lib.itoa 2 = [50] ∧ Lib.itoa 3 = [51] ∧ Lib.itoa 4 = [52] := by
  refine ⟨?_, ?_, ?_, ?_, ?_⟩ <;>
  · unfold Lib.itoa
    rw [if_neg (by decide), Lib.decDigits_one (by decide)]
    rfl
theorem live_shw {ds : List Nd} (hg : Good ds) {t : Int} (h : LeafH lf9 0 false ds t) (h1 : Is ds 1 ⟨1, 1, [], []⟩) (h2 : Is ds 2 ⟨1, 2, [], []⟩) (h3 : Is ds 3 ⟨1, 3, [], []⟩) (h4 : Is ds 4 ⟨1, 4, [], []⟩) : shw ds t = liveS := by
  obtain ⟨a, b, c, ia, ib, ic, x, ix, it⟩ := h
  have ic : Is ds c ⟨3, 0, [], [1, 2, 3, 4]⟩ := ic
  obtain ⟨e0, e1, e2, e3, e4⟩ := itoa9
  rw [is_shw hg it]
  simp only [one, List.map_cons, List.map_nil, is_shw hg ix, is_shw hg ia, is_shw hg ib, is_shw hg ic, is_shw hg h1, is_shw hg h2, is_shw hg h3, is_shw hg h4]
  simp [one, e0, e1, e2, e3, e4, joinC, esc, kName, kTab, leafS, liveS]
theorem live_shT {ds : List Nd} (hg : Good ds) {t : Int} (h : LeafH lf9 0 false ds t) (h1 : Is ds 1 ⟨1, 1, [], []⟩) (h2 : Is ds 2 ⟨1, 2, [], []⟩) (h3 : Is ds 3 ⟨1, 3, [], []⟩) (h4 : Is ds 4 ⟨1, 4, [], []⟩) : shE ds t = 0 ∧ shT ds t = liveS := by
  have hs := live_shw hg h h1 h2 h3 h4
  have hE : shE ds t = 0 := by
    unfold shE
    rw [if_pos (show 0 ≤ t ∧ t < (ds.length : Int) from h.isT), hs, if_neg (by decide)]
  exact ⟨hE, by unfold shT; rw [if_pos hE, hs]⟩
theorem lf9_ok : ∀ d ∈ [lf9], TnOk d := fun d h => by
  rw [List.mem_singleton.1 h]
  exact ⟨⟨by decide, by decide⟩, ⟨by decide, by decide⟩, ⟨by decide, by decide⟩, ⟨by decide, by decide⟩, ⟨by decide, by decide⟩, fun x h => absurd h List.not_mem_nil⟩
theorem lf9_chk : chkB [lf9] = true := by decide +kernel
theorem lf9_few : FewTree [lf9] 1 := ⟨chk_mayN lf9_chk, fun x hx => by
  obtain rfl : x = 0 := by omega
  exact Nat.zero_le _⟩
theorem lf9_terms : TermsOk [lf9] 10 := fun x hx _ => by
  obtain rfl : x = 0 := by simpa using hx
  exact ⟨⟨⟨by decide, by decide⟩, ⟨by decide, by decide⟩⟩, fun _ => ⟨⟨by decide, by decide⟩, ⟨by decide, by decide⟩⟩⟩
/-- The literal tree of one leaf. -/
theorem lf9_tree {w : World} {g : Nat} (hb : Blk w g 29 [.int .i64 1, .int .i64 1, .int .i64 2, .int .i64 3, .int .i64 4, .slice none 0 0]) : TreeIn (fun b => b = g) w (.slice (some ⟨g, 0, none⟩) 1 1) [lf9] := by
  have key : ∀ w', Turn (fun b => ¬ b = g) w w' → Blk w' g 29 [.int .i64 1, .int .i64 1, .int .i64 2, .int .i64 3, .int .i64 4, .slice none 0 0] := fun w' t => hb.turn t (fun c => c rfl)
  refine ⟨fun w' t => ⟨[.slice none 0 0], rfl, RdvBlk (key w' t) rfl (by unfold maxLen; decide), fun i hi => ?_⟩, fun x hx => ?_⟩
  · obtain rfl : i = 0 := by simpa using hi
    exact RdI.nil _
  · obtain rfl : x = 0 := by simpa using hx
    refine ⟨g, 0, 1, none, 0, rfl, fun w' t => ⟨?_, RdI.nil _⟩⟩
    have k := key w' t
    exact ⟨k.cell 0, k.cell 1, k.cell 2, k.cell 3, k.cell 4, k.cell 5⟩
end Go.Proofs.YtnmaiokhndbicaaGreatDoor
end

section
/- The statements' live of layer 9. -/
set_option linter.unusedSimpArgs false
set_option linter.unusedVariables false
namespace Go.Proofs.YtnmaiokhndbicaaGreatDoor
open Go.RowKit Go.Maps

/-- An arena of its own memory, apart from what was there and from one more block. -/
theorem At.mk9 {w w1 w2 : World} {p : Value} {ds : List Nd} {F : Nat → Prop} {g : Nat} (hA : Ar F w1 p ds) (hF : ∀ b, F b → w.heap.size ≤ b) (k1 : Kept w w1) (k2 : Kept w1 w2) (hg : w1.heap.size ≤ g) (hg2 : g < w2.heap.size) (hT : Tabs w) :
    At w (fun b => b < w.heap.size ∨ b = g) w2 p ds :=
  ⟨⟨F, ArG.kept hA k2, fun b hb hs => by
    rcases hs with c | c
    · have := hF b hb; omega
    · have := hA.lt b hb; omega⟩, fun b hb => by
    have := (k1.trans k2).size
    rcases hb with c | c <;> omega, fun b hb => .inl hb, k1.trans k2, hT⟩

set_option maxHeartbeats 8000000 in
set_option maxRecDepth 100000 in
theorem live09_any {w : World} (hT : Tabs w) (hM : TabsM w) : Calls Tryz.prog 4 #[] w fun e w' => e = .returned (.bool true) ∧ Kept w w' := by
  have HT := Lib.hid hT
  have HM := Lib.hid hM
  clear hT hM
  go_enter Tryz.func4, Tryz.ntmps4
  go_wp2_with fail
  (with_reducible refine (two09_any HT.out).mono ?_); rintro e w1 ⟨p, q, pa, rfl, rfl, F, G, hA, hR, hFG, hF, hG, k1⟩
  have k2 : Kept w1 (w1.alloc (.cells #[.int .i64 1, .int .i64 1, .int .i64 2, .int .i64 3, .int .i64 4, .slice none 0 0] 29)) := (Kept.refl w1).alloc _
  have b2 := Blk.new w1 [.int .i64 1, .int .i64 1, .int .i64 2, .int .i64 3, .int .i64 4, .slice none 0 0] 29
  have a2 := At.mk9 hA hF k1 k2 (Nat.le_refl _) b2.lt HT.out
  have ht := lf9_tree b2
  have HH := Lib.hid (PHash_leaf (x := 0) (j := 0) lf9_few lf9_ok (by decide) (fun d hd => by rw [List.mem_singleton.1 hd]; decide) lf9_chk lf9_terms a2 ht (fun b hb => .inr hb) HM.out rfl (by decide) (by decide +kernel) (RdI.nil _) (by rw [atomsL_len]; exact Nat.le_refl _) (by rw [atomsL_len]; decide))
  have HG := Lib.hid (fun (r : List Nd) (t : Int) (f : Nat → Bool) (hg : Good (atomsL 10 ++ r)) (hQ : LeafH lf9 (0 : Int) (f 0) (atomsL 10 ++ r) t) (hf : f 0 = false) => live_shT hg (by rw [hf] at hQ; exact hQ) ((atoms_is (k := 10) (n := 1) (by decide)).more r) ((atoms_is (k := 10) (n := 2) (by decide)).more r) ((atoms_is (k := 10) (n := 3) (by decide)).more r) ((atoms_is (k := 10) (n := 4) (by decide)).more r))
  clear hA hR hFG hF hG a2 ht b2
  have HH : Hid (Calls Tryz.prog 11 #[.pointer (some pa), .slice (some ⟨w1.heap.size, 0, none⟩) 1 1, .int .i64 0, .slice none 0 0] (w1.alloc (.cells #[.int .i64 1, .int .i64 1, .int .i64 2, .int .i64 3, .int .i64 4, .slice none 0 0] 29)) (PHashPost w (fun b => b < w.heap.size ∨ b = w1.heap.size) (w1.alloc (.cells #[.int .i64 1, .int .i64 1, .int .i64 2, .int .i64 3, .int .i64 4, .slice none 0 0] 29)) (.pointer (some pa)) (atomsL 10) lf9 0 [])) := HH
  generalize atomsL 10 = d0 at *
  go_wp2_with fail
  (with_reducible refine HH.out.mono ?_); rintro e w3 ⟨f, r, t, rfl, a3, hr, hQ, t3, hf⟩
  have hf0 : f 0 = false := by
    cases hc : f 0 with
    | false => rfl
    | true => have := hf 0 hc; cases this
  obtain ⟨hE, hS⟩ := HG.out r t f a3.good hQ hf0
  obtain ⟨F3, hF3, _⟩ := a3.ar
  have HSh := Lib.hid (show_any hF3 a3.tabs t)
  rw [hE, hS] at HSh
  have A3 := Lib.hid a3
  clear hE hS hF3 a3 hQ hf hf0 HG
  have es := strB_list liveS
  unfold liveS at es HSh
  generalize strB [104, 97, 115, 104, 40, 108, 105, 115, 116, 40, 34, 108, 101, 97, 102, 34, 44, 34, 48, 34, 44, 108, 105, 115, 116, 40, 35, 49, 44, 35, 50, 44, 35, 51, 44, 35, 52, 41, 41, 41] = X at es HSh
  go_wp2_with fail
  (with_reducible refine HSh.out.mono ?_); rintro e w4 ⟨rfl, k4⟩
  go_wp2
  go_ret
  exact ⟨rfl, A3.out.kept.trans k4⟩
end Go.Proofs.YtnmaiokhndbicaaGreatDoor
end

section
/- The walk of HashVouches. -/
set_option linter.unusedSimpArgs false
set_option linter.unusedVariables false
namespace Go.Proofs.YtnmaiokhndbicaaGreatDoor
open Go.RowKit Go.Maps

/-- An arena of its own memory, apart from what was there. -/
theorem At.mk8 {w w0 w1 w2 : World} {p : Value} {ds : List Nd} {F : Nat → Prop} (hA : Ar F w1 p ds) (hF : ∀ b, F b → w0.heap.size ≤ b) (k0 : Kept w w0) (k1 : Kept w0 w1) (k2 : Kept w1 w2) (hT : Tabs w) :
    At w (fun b => b < w.heap.size) w2 p ds :=
  ⟨⟨F, ArG.kept hA k2, fun b hb hs => by
    have := hF b hb
    have := k0.size
    omega⟩, fun b hb => by
    have := ((k0.trans k1).trans k2).size
    omega, fun b hb => hb, (k0.trans k1).trans k2, hT⟩

set_option maxHeartbeats 16000000 in
set_option maxRecDepth 100000 in
theorem vouches_any {W : World} {tv : Value} {t : List Rt.TN} (ht : RdTs W tv t) (hok : ∀ d ∈ t, TnOk d) {x : Int} (hx : I64 x) (hT : Tabs W) (hM : TabsM W) :
    Calls Tryz.prog 3 #[tv, .int .i64 x] W fun e w' => e = .returned (.bool true) ∧ Kept W w' := by
  have HL := Lib.hid (live09_any hT hM)
  have HTr := Lib.hid ht
  have HF := Lib.hid (fun (w : World) (k : Kept W w) => few09_any (b := w.heap.size) (w := w.alloc (.cells #[tv] 22)) (vs := [tv]) (tts := [t]) (Blk.new w [tv] 22) (by simp) (fun i hi => by
    obtain rfl : i = 0 := by simpa using hi
    exact ht.kept (k.alloc _)))
  have HF : Hid (∀ (w : World), Kept W w → Calls Tryz.prog 5 #[.slice (some ⟨w.heap.size, 0, none⟩) 1 1] (w.alloc (.cells #[tv] 22)) (FewPostH (w.alloc (.cells #[tv] 22)) 1 [t])) := HF
  have HC := Lib.hid (fun (w : World) (k : Kept W w) => rcheck_any (ht.kept k) hok)
  have HTb := Lib.hid hT
  have HMb := Lib.hid hM
  obtain ⟨ta, tc, rfl, t1, t2, t3⟩ := ht.len
  have t63 : ((t.length : Nat) : Int) ≤ 9223372036854775807 := by unfold maxLen at t2; omega
  clear ht hT hM
  go_enter Tryz.func3, Tryz.ntmps3
  go_wp2_with fail
  (with_reducible refine HL.out.mono ?_); rintro e w1 ⟨rfl, k1⟩
  go_wp2_with fail
  (with_reducible refine (HF.out _ k1).mono ?_); rintro e w2 ⟨⟨r, rfl, hr⟩, k2⟩
  have k12 : Kept W w2 := (k1.alloc _).trans k2
  have hr0 : r = true → FewH t := fun h => by
    have := hr.1 h 0 (by decide)
    exact this
  clear hr k2
  cases r with
  | false =>
    go_wp2
    go_ret
    exact ⟨rfl, k12⟩
  | true =>
    have hfew := hr0 rfl
    clear hr0
    cases hc : chkB t with
    | false =>
      rw [hc] at HC
      have HC : Hid (∀ (w : World), Kept W w → Calls Tryz.prog 6 #[.slice ta t.length tc] w fun e w' => e = .returned (.int .i64 1) ∧ Kept w w') := HC
      go_wp2_with fail
      (with_reducible refine (HC.out _ k12).mono ?_); rintro e w3 ⟨rfl, k3⟩
      go_wp2
      go_ret
      exact ⟨rfl, k12.trans k3⟩
    | true =>
      rw [hc] at HC
      have HC : Hid (∀ (w : World), Kept W w → Calls Tryz.prog 6 #[.slice ta t.length tc] w fun e w' => e = .returned (.int .i64 0) ∧ Kept w w') := HC
      by_cases hx0 : x < 0
      · go_wp2_with fail
        (with_reducible refine (HC.out _ k12).mono ?_); rintro e w3 ⟨rfl, k3⟩
        go_wp2
        go_ret
        exact ⟨rfl, k12.trans k3⟩
      by_cases hxl : (t.length : Int) ≤ x
      · go_wp2_with fail
        (with_reducible refine (HC.out _ k12).mono ?_); rintro e w3 ⟨rfl, k3⟩
        go_wp2
        go_ret
        exact ⟨rfl, k12.trans k3⟩
      obtain ⟨y, rfl⟩ := Int.eq_ofNat_of_zero_le (show 0 ≤ x by omega)
      have hy : y < t.length := by omega
      obtain ⟨zb, zo, zc, za, zcc, hzv, hzat, hzun⟩ := HTr.out.at (k := y) hy
      simp only [Value.slice.injEq] at hzv
      obtain ⟨rfl, -, rfl⟩ := hzv
      by_cases h2 : (Rt.nd t y).kd = 2
      · have hb2 : ((Rt.nd t y).kd != 2) = false := by rw [h2]; rfl
        have y0 : (0 : Int) ≤ (y : Int) := by omega
        have y1 : (y : Int) < (t.length : Int) := by omega
        have hmn := chk_mayN hc
        have HZ := Lib.hid (fun w (k : Kept W w) => (hzat w k).1)
        have HE := Lib.hid (fun w (k : Kept W w) => (hzat w k).2.2.1)
        have HTe := Lib.hid (fun (w : World) (k : Kept W w) (p : Value) (G : Nat → Prop) (ds : List Nd) (h : ArR G w p ds) => rterms_any (HTr.out.kept k) hok h)
        clear hzat hzun hxl hx0
        generalize hkd : (Rt.nd t y).kd = kd at HZ hb2 h2
        have HKD := Shut.mk (hkd.trans h2)
        clear hkd h2
        go_wp2_with fail
        (with_reducible refine (HC.out _ k12).mono ?_); rintro e w3 ⟨rfl, k3⟩
        have k13 := k12.trans k3
        have g0 := HZ.out _ k13
        go_wp2_with fail
        (with_reducible refine (two09_any (HTb.out.kept k13)).mono ?_); rintro e w4 ⟨p, q, pa, rfl, rfl, F, G, hA, hR, hFG, hF, hG, k4⟩
        have k14 := k13.trans k4
        have HTe' := Lib.hid (HTe.out _ k14 _ _ _ hR)
        clear hR hFG hG HTe
        go_wp2_with fail
        (with_reducible refine HTe'.out.mono ?_); rintro e w5 ⟨b, rfl, hb, k5⟩
        have k15 := k14.trans k5
        cases b with
        | false =>
          go_wp2
          go_ret
          exact ⟨rfl, k15⟩
        | true =>
          obtain ⟨_, hterm⟩ := hb rfl
          rw [atomsL_len] at hterm
          clear hb
          have hask : AskV t ((t.length + 1) / 2) 10 y := ⟨⟨hmn, fun z hz => hfew.2 z (by rw [hmn.len]; exact hz)⟩, hok, hfew.1, hc, hterm, by rw [← hmn.len]; exact hy, HKD.out⟩
          generalize (t.length + 1) / 2 = n at hmn hask
          have h70 : 2 * n - 1 ≤ 70 := by rw [← hmn.len]; exact hfew.1
          have hlv := hask.lvl
          obtain ⟨kv1, kv2⟩ := kids_v hmn.hn h70 hask.hx hlv
          obtain ⟨s, hwd, hw2, hw3⟩ := half_facts (y := y) (by have := hask.hx; omega) hlv
          obtain ⟨⟨te, th⟩, _⟩ := hterm y hy (by rw [HKD.out]; decide)
          have HAsk := Lib.hid hask
          have hy70 : (y : Int) < 70 := by have := hask.hx; omega
          have HK1 := Lib.hid kv1
          have HK2 := Lib.hid kv2
          have a5 := At.mk8 hA hF k13 k4 k5 HTb.out
          have A5 := Lib.hid a5
          have V1 := Lib.hid (PVouch_ok hask a5 (HTr.out.treeIn k15) (fun b hb => hb) HMb.out kv1.hc kv1.up kv1.par kv1.sib kv1.ho kv1.lo (by rw [atomsL_len]; exact Nat.le_refl _) (by rw [atomsL_len]; decide))
          have LA := Shut.mk (atomsL_len 10)
          generalize atomsL 10 = d0 at *
          have HHt := Shut.mk hy
          clear hA hF hask kv1 kv2 hmn h70 hlv a5 hterm hy hfew
          generalize Mth.left y = xl at *
          generalize Mth.right y = xr at *
          generalize hen : (Rt.nd t y).enc = enc at HE V1 te
          generalize hha : (Rt.nd t y).hash = hash at V1
          have HEN := Shut.mk hen
          have HHA := Shut.mk hha
          clear hen hha th
          go_wp2_with fail
          (with_reducible refine V1.out.mono ?_); rintro e w6 ⟨r1, v, rfl, a6, hr1, hQ1, t6⟩
          have V2 := Lib.hid (PVouch_ok HAsk.out a6 (HTr.out.treeIn a6.kept) (fun b hb => hb) HMb.out HK2.out.hc HK2.out.up HK2.out.par HK2.out.sib HK2.out.ho HK2.out.lo (by have := LA.out; rw [List.length_append]; omega) (by have := LA.out; rw [List.length_append]; omega))
          clear a6 V1
          go_wp2_with fail
          (with_reducible refine V2.out.mono ?_); rintro e w7 ⟨r2, v2, rfl, a7, hr2, hQ2, t7⟩
          have V3 := Lib.hid (PVouch_self HAsk.out a7 (HTr.out.treeIn a7.kept) (fun b hb => hb) HMb.out (by have := LA.out; rw [List.length_append, List.length_append]; omega))
          clear V2 hw3 hQ2 t6 t7
          go_wp2_with fail
          (with_reducible refine V3.out.mono ?_); rintro e w8 ⟨rfl, k8⟩
          have a8 := a7.step k8
          have CP := Lib.hid (rcopy_any (HTr.out.kept a8.kept) (by have := HAsk.out.len; omega) HAsk.out.un)
          have A8 := Lib.hid a8
          clear a7 a8 V3
          go_wp2_with fail
          (with_reducible refine CP.out.mono ?_); rintro e w9 ⟨uv, lvs, rfl, ou, k9⟩
          obtain ⟨g, cap, rfl, hg1, hg2, hcap, hcm⟩ := Ownv.addr0 ou.row (by rw [tflat_length]; have := HHt.out; omega)
          have c2 := Ownv.cell0 ou.row (y * 6 + 2) ((tflat_at t lvs y 2 HHt.out (by decide)).trans (show (tnCells (Rt.nd t y) (lvs.getD y undef))[2]? = some (.int .i64 enc) by rw [← HEN.out]; rfl))
          have f2 := Ownv.free ou.row (y * 6 + 2)
          obtain ⟨e2, he2, te2, hne, h64⟩ := next_enc te
          have hwe : wrap64 (enc + 1) = enc + 1 := IntWalk.wrap64_in _ (by have := te.1; have := te.2; omega)
          have o10 := ou.setE HHt.out e2
          have kA : Kept W (w9.setCell ⟨g, y * 6 + 2, none⟩ (.int .i64 e2)) := (A8.out.kept.trans k9).setCell (ad := ⟨g, y * 6 + 2, none⟩) (Nat.le_trans A8.out.kept.size hg1) _
          have a10 : At W (fun b => b < W.heap.size ∨ (w8.heap.size ≤ b ∧ b < (w9.setCell ⟨g, y * 6 + 2, none⟩ (.int .i64 e2)).heap.size)) (w9.setCell ⟨g, y * 6 + 2, none⟩ (.int .i64 e2)) (.pointer (some pa)) (d0 ++ r1 ++ r2) := by
            have a9 : At W (fun b => b < W.heap.size ∨ (w8.heap.size ≤ b ∧ b < w9.heap.size)) w9 (.pointer (some pa)) (d0 ++ r1 ++ r2) := A8.out.more k9 (fun b hb => by
              rcases hb with hb | hb
              · exact ⟨.inl hb, by have := A8.out.kept.size; have := k9.size; omega⟩
              · exact ⟨.inr hb.1, hb.2⟩) (fun b hb => .inl hb)
            have := a9.turn (turn_setCell w9 ⟨g, y * 6 + 2, none⟩ (.int .i64 e2)) (fun b e => by
              have e : b = g := e
              subst e
              exact ⟨.inr ⟨hg1, hg2⟩, Nat.le_trans A8.out.kept.size hg1⟩)
            rw [size_setCell]
            exact this
          have ti := o10.treeIn
          have hask2 := ask_set HAsk.out te2 h64
          have V4 := Lib.hid (PVouch_ok hask2 a10 ti (fun b hb => .inr hb) HMb.out HK1.out.hc HK1.out.up HK1.out.par HK1.out.sib HK1.out.ho HK1.out.lo (by have := LA.out; rw [List.length_append, List.length_append]; omega) (by have := LA.out; rw [List.length_append, List.length_append]; omega))
          rw [setE_nd HHt.out y, if_pos rfl] at V4
          have TI := Lib.hid ti
          have HQ1 := Lib.hid (hQ1.more r2)
          have HNE := Shut.mk hne
          clear CP ou hask2 ti a10 o10 k9 hcap hcm te te2 h64 hQ1 hne k15 k14 k13 k12
          go_wp2_with fail
          (with_reducible refine V4.out.mono ?_); rintro e w11 ⟨r4, v4, rfl, a11, hr4, hQ4, t11⟩
          have hvv : (v4 == v) = false := beq_eq_false_iff_ne.2 (vouch_ne HQ1.out hQ4 HNE.out)
          have hee : (e2 == enc) = false := beq_eq_false_iff_ne.2 HNE.out
          have HK := Shut.mk a11.kept
          have q1 := HE.out w11 a11.kept
          obtain ⟨tb, tf, tcc, la, lc, hsl, hcell⟩ := TI.out.cells y (by rw [setE_len]; exact HHt.out)
          have q2 := (hcell w11 (t11.mono fun b hb hu => hb (.inr hu))).1.2.2.1
          rw [setE_nd HHt.out y, if_pos rfl] at q2
          simp only [Value.slice.injEq, Option.some.injEq, Addr.mk.injEq] at hsl
          obtain ⟨⟨rfl, rfl, -⟩, -, -⟩ := hsl
          rw [Nat.zero_add] at q2
          clear hcell a11 hQ4 V4 t11 TI HQ1 HNE he2 hwe hwd hw2
          go_wp2_with fail
          have kd : Kept w11 w11.drew := (Kept.refl w11).drew
          have d1 := (kd.cell (p := ⟨zb, zo + y * 6 + 2, none⟩) (World.block_lt_of_cell? _ _ q1)).trans q1
          have d2 := (kd.cell (p := ⟨g, y * 6 + 2, none⟩) (World.block_lt_of_cell? _ _ q2)).trans q2
          refine wp_region_still_lit (by kernel_rfl) (by kernel_rfl) ?_
          change wpStill _ _ w11.drew _ _ _
          repeat still_step
          refine wpStill_nil ?_
          go_wp2
          go_ret
          exact ⟨rfl, HK.out.drew⟩
      · have hb2 : ((Rt.nd t y).kd != 2) = true := by rw [bne_iff_ne]; exact h2
        have y0 : (0 : Int) ≤ (y : Int) := by omega
        have y1 : (y : Int) < (t.length : Int) := by omega
        have HZ := Lib.hid (fun w (k : Kept W w) => (hzat w k).1)
        clear hzat hzun h2 hc hxl hx0
        generalize (Rt.nd t y).kd = kd at *
        go_wp2_with fail
        (with_reducible refine (HC.out _ k12).mono ?_); rintro e w3 ⟨rfl, k3⟩
        have g0 := HZ.out _ (k12.trans k3)
        go_wp2
        go_ret
        exact ⟨rfl, k12.trans k3⟩
end Go.Proofs.YtnmaiokhndbicaaGreatDoor
end
