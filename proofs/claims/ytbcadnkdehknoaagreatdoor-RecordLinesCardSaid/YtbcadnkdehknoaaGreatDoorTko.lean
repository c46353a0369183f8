/-
  Layer 4: the program's kindOf.
-/
import Derived.Test.YtbcadnkdehknoaaGreatDoorTkd
import Derived.Laws.EntriesVeiled
import Derived.Lib.SmallJoins
namespace Go.Proofs.YtbcadnkdehknoaaGreatDoor
open Go Go.RowKit
set_option linter.unusedVariables false

/-- Is it a kind? -/
def isKind (k : Int) : Bool := decide (1 ≤ k ∧ k ≤ 7)
def kindAt (k : Int) : Value := if isKind k then kindV k else .agg #[.string ⟨#[]⟩, .int .i64 0, .nilFunc, .nilFunc, .nilFunc]

theorem kindAt_eq {k : Int} (h : 1 ≤ k ∧ k ≤ 7) : kindAt k = .agg #[.string ⟨wordA k⟩, .int .i64 (partN k : Nat), .func (.func (numF k)) #[] #[], .func (.func (fitF k)) #[] #[], .func (.func (askF k)) #[] #[]] := by
  unfold kindAt isKind
  rw [decide_eq_true h, if_pos rfl]
  rfl

theorem kindof_ret {w W : World} {k : Int} {b : Bool} {v0 v1 v2 v3 v4 : Value} (F : W.heap[w.heap.size]? = some (.cells #[v0, v1, v2, v3, v4] 195 (0, 0))) (hbw : Below w.heap.size w W) (HR : kindAt k = .agg #[v0, v1, v2, v3, v4]) (HL : isKind k = b)
    (tmps : Array Value) (h2 : tmps.getD 2 undef = .pointer (some ⟨w.heap.size, 0, none⟩)) (h3 : tmps.getD 3 undef = .bool b) :
    bodyPost Tryz.prog Tryz.f153 (fun e w' => e = .returned (.tuple #[kindAt k, .bool (isKind k)]) ∧ Below w.heap.size w w') .ret { tmps := tmps, defers := [] } W := by
  rw [Array.getD_eq_getD_getElem?] at h2 h3
  have e0 := cell_of_row W _ 0 _ _ _ F
  have e1 := cell_of_row W _ 1 _ _ _ F
  have e2 := cell_of_row W _ 2 _ _ _ F
  have e3 := cell_of_row W _ 3 _ _ _ F
  have e4 := cell_of_row W _ 4 _ _ _ F
  simp at e0 e1 e2 e3 e4
  exact bodyPost_ret (v := .tuple #[.agg #[v0, v1, v2, v3, v4], .bool b]) (by simp [results, Tryz.results153, go_sem, h2, h3, e0, e1, e2, e3, e4]) rfl ⟨by rw [HR, HL], hbw⟩
theorem below_set5 {B g : Nat} {w w1 : World} (h : Below B w w1) (hg : B ≤ g) (v0 v1 v2 v3 v4 : Value) : Below B w (((((w1.setCell ⟨g, 0, none⟩ v0).setCell ⟨g, 1, none⟩ v1).setCell ⟨g, 2, none⟩ v2).setCell ⟨g, 3, none⟩ v3).setCell ⟨g, 4, none⟩ v4) :=
  ((((h.setCell hg _).setCell hg _).setCell hg _).setCell hg _).setCell hg _

set_option maxRecDepth 100000 in
set_option maxHeartbeats 1600000 in
theorem kindof_any (k : Int) (w : World) : Calls Tryz.prog 153 #[.int .i64 k] w fun e w' => e = .returned (.tuple #[kindAt k, .bool (isKind k)]) ∧ Below w.heap.size w w' := by
  have hb0 := below_new w (.cells #[.string ⟨#[]⟩, .int .i64 0, .nilFunc, .nilFunc, .nilFunc] 195)
  have hh0 := heap_alloc_new w (.cells #[.string ⟨#[]⟩, .int .i64 0, .nilFunc, .nilFunc, .nilFunc] 195)
  by_cases h : 1 ≤ k ∧ k ≤ 7
  · have hk : k = 1 ∨ k = 2 ∨ k = 3 ∨ k = 4 ∨ k = 5 ∨ k = 6 ∨ k = 7 := by omega
    have HX : ∀ wx, (Instr.index 223 (.agg kindsA) (.int .i64 k)).run Tryz.prog wx = .ok (.agg #[.string ⟨wordA k⟩, .int .i64 (partN k : Nat), .func (.func (numF k)) #[] #[], .func (.func (fitF k)) #[] #[], .func (.func (askF k)) #[] #[]]) wx := by
      rcases hk with rfl | rfl | rfl | rfl | rfl | rfl | rfl <;> exact fun wx => by kernel_rfl
    have HR := Lib_hid (kindAt_eq h)
    have HL : Hid (isKind k = true) := by unfold isKind Hid; simp; omega
    obtain ⟨h1, h2⟩ := h
    have hd1 : ¬ k < 1 := by omega
    have hd2 : ¬ 7 < k := by omega
    have KD := kinds_any (w.alloc (.cells #[.string ⟨#[]⟩, .int .i64 0, .nilFunc, .nilFunc, .nilFunc] 195))
    clear hk
    generalize wordA k = wd at *
    generalize partN k = pn at *
    generalize numF k = f1 at *
    generalize fitF k = f2 at *
    generalize askF k = f3 at *
    generalize kindsA = ka at *
    go_enter Tryz.func153, Tryz.ntmps153
    go_wp2_with fail
    refine KD.mono ?_
    rintro e w1 ⟨rfl, hb1⟩
    have hh1 := (hb1.block w.heap.size (by simp)).trans hh0
    have d0 := cell_of_row w1 _ 0 _ _ _ hh1
    have d1 := cell_of_row w1 _ 1 _ _ _ hh1
    have d2 := cell_of_row w1 _ 2 _ _ _ hh1
    have d3 := cell_of_row w1 _ 3 _ _ _ hh1
    have d4 := cell_of_row w1 _ 4 _ _ _ hh1
    have z0 := frozen_of_row w1 _ 0 _ _ hh1
    have z1 := frozen_of_row w1 _ 1 _ _ hh1
    have z2 := frozen_of_row w1 _ 2 _ _ hh1
    have z3 := frozen_of_row w1 _ 3 _ _ hh1
    have z4 := frozen_of_row w1 _ 4 _ _ hh1
    have hbw := hb0.trans (hb1.mono hb0.size)
    clear KD hb1 hb0 hh0
    have hbs := below_set5 hbw (Nat.le_refl _) (.string ⟨wd⟩) (.int .i64 (pn : Nat)) (.func (.func f1) #[] #[]) (.func (.func f2) #[] #[]) (.func (.func f3) #[] #[])
    have HB := Lib_hid (And.intro hh1 hbs)
    clear hh1 hbw hbs
    go_wp2
    exact kindof_ret (Joins.block_setCell (Joins.block_setCell (Joins.block_setCell (Joins.block_setCell (Joins.block_setCell HB.out.1 _) _) _) _) _) HB.out.2 HR.out HL.out _ rfl rfl
  · have HL : Hid (isKind k = false) := by unfold isKind Hid; simp; omega
    have HR : Hid (kindAt k = .agg #[.string ⟨#[]⟩, .int .i64 0, .nilFunc, .nilFunc, .nilFunc]) := by unfold kindAt; rw [HL.out]; exact Lib_hid rfl
    clear hb0 hh0
    go_enter Tryz.func153, Tryz.ntmps153
    by_cases h1 : k < 1
    · clear h
      go_wp2
      exact kindof_ret (heap_alloc_new w _) (below_new w _) HR.out HL.out _ rfl rfl
    · have h2 : 7 < k := by omega
      clear h
      go_wp2
      exact kindof_ret (heap_alloc_new w _) (below_new w _) HR.out HL.out _ rfl rfl

end Go.Proofs.YtbcadnkdehknoaaGreatDoor
