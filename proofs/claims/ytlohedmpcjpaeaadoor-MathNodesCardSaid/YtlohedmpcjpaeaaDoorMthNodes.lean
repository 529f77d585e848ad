/- The walk of the statement MathNodes. -/
import Derived.Test.YtlohedmpcjpaeaaDoorMthL
import Derived.Laws.EntriesVeiled
set_option linter.unusedSimpArgs false
set_option linter.unusedVariables false
namespace Go.Proofs.YtlohedmpcjpaeaaDoor
open Go.RowKit

def fN (k : Nat) : Nat := [9, 11, 13, 15, 17, 19].getD k 0
def gN (k : Nat) : Nat := [10, 12, 14, 16, 18, 20].getD k 0
theorem six {p : Nat → Prop} (h0 : p 0) (h1 : p 1) (h2 : p 2) (h3 : p 3) (h4 : p 4) (h5 : p 5) : ∀ k, k < 6 → p k
  | 0, _ => h0
  | 1, _ => h1
  | 2, _ => h2
  | 3, _ => h3
  | 4, _ => h4
  | 5, _ => h5
def NumPost (w : World) (v e : Int) (x : Ending) (w' : World) : Prop := x = .returned (.tuple #[.int .i64 v, .int .i64 e]) ∧ Kept w w'
theorem same_num {w : World} {v e : Int} {x : Ending} {w' : World} (h : x = .returned (.tuple #[.int .i64 v, .int .i64 e]) ∧ w = w') : NumPost w v e x w' := by
  obtain ⟨h1, rfl⟩ := h
  exact ⟨h1, Kept.refl _⟩
/-- What the six pairs of calls answer: the same. -/
theorem nodes_pairs (x : Int) (w : World) (hx : I64 x) (ht : Tabs w) : ∃ V E : Nat → Int, (∀ k, k < 6 → ∀ W, Kept w W → Calls Tryd.prog (fN k) #[.int .i64 x] W (NumPost W (V k) (E k))) ∧ (∀ k, k < 6 → ∀ W, Calls Tryd.prog (gN k) #[.int .i64 x] W (NumPost W (V k) (E k))) := by
  refine ⟨fun k => match k with
      | 0 => pk (treeB x) (2 * x - 1) | 1 => pk (treeB x) (x - 1) | 2 => pk (inB x 256) (Mth.lvl x.toNat : Nat) | 3 => pk (kidB x) (Mth.left x.toNat : Nat) | 4 => pk (kidB x) (Mth.right x.toNat : Nat) | _ => pk (szB x) (Mth.size x.toNat : Nat),
    fun k => match k with
      | 0 => er (treeB x) | 1 => er (treeB x) | 2 => er (inB x 256) | 3 => er (kidB x) | 4 => er (kidB x) | _ => er (szB x), six ?_ ?_ ?_ ?_ ?_ ?_, six ?_ ?_ ?_ ?_ ?_ ?_⟩
  · exact fun W k => Width_any x W hx
  · exact fun W k => Root_any x W hx
  · exact fun W k => Level_any x W hx (ht.kept k)
  · exact fun W k => Left_any x W hx (ht.kept k)
  · exact fun W k => Right_any x W hx (ht.kept k)
  · exact fun W k => Size_any x W hx
  · exact fun W => (RWidth_any x W hx).mono fun _ _ h => same_num h
  · exact fun W => (RRoot_any x W hx).mono fun _ _ h => same_num h
  · exact fun W => (RLevel_any x W hx).mono fun _ _ h => same_num h
  · exact fun W => (RLeft_any x W hx).mono fun _ _ h => same_num h
  · exact fun W => (RRight_any x W hx).mono fun _ _ h => same_num h
  · exact fun W => (RSize_any x W hx).mono fun _ _ h => same_num h
theorem egF : ∀ k, k < 6 → ∀ args w, (callFunc (fN k) args).run Tryd.prog w = .ok (.enter (fN k) args) w := by
  refine six ?_ ?_ ?_ ?_ ?_ ?_
  · exact enters_of Tryd.func9 (by kernel_rfl) rfl
  · exact enters_of Tryd.func11 (by kernel_rfl) rfl
  · exact enters_of Tryd.func13 (by kernel_rfl) rfl
  · exact enters_of Tryd.func15 (by kernel_rfl) rfl
  · exact enters_of Tryd.func17 (by kernel_rfl) rfl
  · exact enters_of Tryd.func19 (by kernel_rfl) rfl
theorem egG : ∀ k, k < 6 → ∀ args w, (callFunc (gN k) args).run Tryd.prog w = .ok (.enter (gN k) args) w := by
  refine six ?_ ?_ ?_ ?_ ?_ ?_
  · exact enters_of Tryd.func10 (by kernel_rfl) rfl
  · exact enters_of Tryd.func12 (by kernel_rfl) rfl
  · exact enters_of Tryd.func14 (by kernel_rfl) rfl
  · exact enters_of Tryd.func16 (by kernel_rfl) rfl
  · exact enters_of Tryd.func18 (by kernel_rfl) rfl
  · exact enters_of Tryd.func20 (by kernel_rfl) rfl
def funcsN : List Value := [.func (.func 9) #[] #[], .func (.func 10) #[] #[], .func (.func 11) #[] #[], .func (.func 12) #[] #[], .func (.func 13) #[] #[], .func (.func 14) #[] #[], .func (.func 15) #[] #[], .func (.func 16) #[] #[], .func (.func 17) #[] #[], .func (.func 18) #[] #[], .func (.func 19) #[] #[], .func (.func 20) #[] #[]]
theorem funcsN_at : ∀ k, k < 6 → funcsN[k * 2]? = some (.func (.func (fN k)) #[] #[]) ∧ funcsN[k * 2 + 1]? = some (.func (.func (gN k)) #[] #[]) :=
  six ⟨rfl, rfl⟩ ⟨rfl, rfl⟩ ⟨rfl, rfl⟩ ⟨rfl, rfl⟩ ⟨rfl, rfl⟩ ⟨rfl, rfl⟩
set_option maxHeartbeats 4000000 in
set_option maxRecDepth 100000 in
theorem nodes_any {x : Int} (hx : I64 x) {w : World} (ht : Tabs w) : Calls Tryd.prog 3 #[.int .i64 x] w fun e w' => e = .returned (.bool true) ∧ Kept w w' := by
  obtain ⟨V, E, hF, hG⟩ := nodes_pairs x w hx ht
  have HF := Lib.hid hF
  have HG := Lib.hid hG
  clear hF hG
  have HL := Lib.hid (live_any w ht)
  go_enter Tryd.func3, Tryd.ntmps3
  go_wp2_with fail
  refine HL.out.mono ?_; rintro e w1 ⟨rfl, k1⟩
  go_wp2_with fail
  have hb : Blk (w1.alloc (.cells #[.func (.func 9) #[] #[], .func (.func 10) #[] #[], .func (.func 11) #[] #[], .func (.func 12) #[] #[], .func (.func 13) #[] #[], .func (.func 14) #[] #[], .func (.func 15) #[] #[], .func (.func 16) #[] #[], .func (.func 17) #[] #[], .func (.func 18) #[] #[], .func (.func 19) #[] #[], .func (.func 20) #[] #[]] 24)) w1.heap.size 24 funcsN := Blk.new _ _ _
  have hk2 : Kept w (w1.alloc (.cells #[.func (.func 9) #[] #[], .func (.func 10) #[] #[], .func (.func 11) #[] #[], .func (.func 12) #[] #[], .func (.func 13) #[] #[], .func (.func 14) #[] #[], .func (.func 15) #[] #[], .func (.func 16) #[] #[], .func (.func 17) #[] #[], .func (.func 18) #[] #[], .func (.func 19) #[] #[], .func (.func 20) #[] #[]] 24)) := k1.alloc _
  clear k1 HL
  have hs : w1.heap.size < w1.heap.size + 1 := by omega
  generalize (w1.alloc _) = w2 at hb hk2 ⊢
  generalize w1.heap.size = B at hb ⊢
  go_loopw [25] (fun c wr => ∃ k : Nat, k ≤ 6 ∧ c = .int .i64 k ∧ Kept w2 wr) (fun c _ => 6 - (intOf c).toNat)
  case atStart => exact ⟨0, by omega, rfl, Kept.refl _⟩
  case round =>
    obtain ⟨k, hk, rfl, hkr⟩ := hrel
    by_cases hlt : k < 6
    · obtain ⟨c0, c1⟩ := funcsN_at k hlt
      have e0 := hb.kept hkr
      have x0 := (Blk.cell e0 (k * 2)).trans c0
      have x1 := (Blk.cell e0 (k * 2 + 1)).trans c1
      have z0 := egF k hlt
      have z1 := egG k hlt
      have HFk := Lib.hid (HF.out k hlt)
      have HGk := Lib.hid (HG.out k hlt)
      generalize fN k = f at x0 z0 HFk
      generalize gN k = g at x1 z1 HGk
      generalize V k = v at HFk HGk
      generalize E k = er at HFk HGk
      clear c0 c1 e0
      have hd : decide ((k : Int) < 6) = true := decide_eq_true (by omega)
      have hka := (hk2.trans hkr).alloc (.cells #[.func (.func f) #[] #[], .func (.func g) #[] #[]] 24)
      have hkb := hkr.alloc (.cells #[.func (.func f) #[] #[], .func (.func g) #[] #[]] 24)
      have bb : Blk (wr.alloc (.cells #[.func (.func f) #[] #[], .func (.func g) #[] #[]] 24)) wr.heap.size 24 [.func (.func f) #[] #[], .func (.func g) #[] #[]] := Blk.new _ _ _
      go_wp2_with fail
      refine (HFk.out _ hka).mono ?_
      rintro e w3 ⟨rfl, q3⟩
      have y1 := (bb.kept q3).cell 1
      have q4 := hkb.trans q3
      simp only [List.getElem?_cons_zero, List.getElem?_cons_succ] at y1
      clear bb q3 hka hkb
      go_wp2_with fail
      refine (HGk.out _).mono ?_
      rintro e w5 ⟨rfl, q5⟩
      have q6 := q4.trans q5
      clear q4 q5
      go_wp2
      go_roundw
      case rel => exact ⟨k + 1, hlt, by go_num, q6⟩
      case measure => simp [intOf]; omega
    · obtain rfl : k = 6 := by omega
      have hkz := hk2.trans hkr
      have HL1 := Lib.hid (fun W (k : Kept w W) => Leaves_any x W hx (ht.kept k))
      have HL2 := Lib.hid (fun W => RLeaves_any x W hx)
      generalize pk (inB x 256) (Mth.lo x.toNat : Nat) = a1 at HL1 HL2
      generalize pk (inB x 256) (Mth.hi x.toNat : Nat) = a2 at HL1 HL2
      generalize er (inB x 256) = a3 at HL1 HL2
      go_wp2_with fail
      refine (HL1.out _ hkz).mono ?_
      rintro e w3 ⟨rfl, q3⟩
      have q4 := hkz.trans q3
      go_wp2_with fail
      refine (HL2.out _).mono ?_
      rintro e w4 ⟨rfl, rfl⟩
      go_wp2
      go_ret
      exact ⟨rfl, q4⟩
end Go.Proofs.YtlohedmpcjpaeaaDoor
