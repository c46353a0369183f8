/-
  Layer 4: the program's kinds, and kindOf.
-/
import Derived.Test.YtiijdacnfhiagaaGreatDoorTcn
import Derived.Great.BuildSlice
import Derived.Deep.DeepCutAuto
import Derived.Deep.CutBlock
namespace Go.Proofs.YtiijdacnfhiagaaGreatDoor
open Go Go.RowKit
set_option linter.unusedVariables false

/-- The functions of a kind: what it names, what fits, what it asks. -/
def numF (k : Int) : FuncId := if k = 2 ∨ k = 3 then 89 else if k = 4 then 93 else 86
def fitF (k : Int) : FuncId := if k = 1 then 87 else if k = 2 ∨ k = 3 then 90 else if k = 4 then 94 else if k = 5 then 96 else 98
def askF (k : Int) : FuncId := if k = 1 then 88 else if k = 2 then 91 else if k = 3 then 92 else if k = 4 then 95 else if k = 5 then 97 else if k = 6 then 99 else 100
def partN (k : Int) : Nat := if k = 5 then 1 else if k = 6 ∨ k = 7 then 2 else 0
def wordA (k : Int) : Array UInt8 := if k = 1 then #[97, 108, 108] else if k = 2 then #[120, 60, 61] else if k = 3 then #[118, 60, 61] else if k = 4 then #[118, 37] else if k = 5 then #[33] else if k = 6 then #[38] else #[124]

/-- A kind as kindOf answers it. -/
def kindC (k : Int) : List Value := [.string ⟨wordA k⟩, .int .i64 (partN k : Nat), .func (.func (numF k)) #[] #[], .func (.func (fitF k)) #[] #[], .func (.func (askF k)) #[] #[]]
def kindV (k : Int) : Value := .agg (kindC k).toArray
def kindsA : Array Value := #[.string ⟨#[]⟩, .int .i64 0, .nilFunc, .nilFunc, .nilFunc,
  .string ⟨#[97, 108, 108]⟩, .int .i64 0, .func (.func 86) #[] #[], .func (.func 87) #[] #[], .func (.func 88) #[] #[],
  .string ⟨#[120, 60, 61]⟩, .int .i64 0, .func (.func 89) #[] #[], .func (.func 90) #[] #[], .func (.func 91) #[] #[],
  .string ⟨#[118, 60, 61]⟩, .int .i64 0, .func (.func 89) #[] #[], .func (.func 90) #[] #[], .func (.func 92) #[] #[],
  .string ⟨#[118, 37]⟩, .int .i64 0, .func (.func 93) #[] #[], .func (.func 94) #[] #[], .func (.func 95) #[] #[],
  .string ⟨#[33]⟩, .int .i64 1, .func (.func 86) #[] #[], .func (.func 96) #[] #[], .func (.func 97) #[] #[],
  .string ⟨#[38]⟩, .int .i64 2, .func (.func 86) #[] #[], .func (.func 98) #[] #[], .func (.func 99) #[] #[],
  .string ⟨#[124]⟩, .int .i64 2, .func (.func 86) #[] #[], .func (.func 98) #[] #[], .func (.func 100) #[] #[]]
def kindsZ : Array Value := ((List.replicate 8 [Value.string ⟨#[]⟩, .int .i64 0, .nilFunc, .nilFunc, .nilFunc]).flatten).toArray

theorem kindsA_one : (kindsA.all fun x => x.oneCell') = true := by kernel_rfl

theorem setrow_new (w : World) (c cs : Array Value) (T : TypeId) : ((w.alloc (.cells c T)).setRow w.heap.size cs).heap[w.heap.size]? = some (.cells cs T (0, 0)) :=
  setRow_heap _ _ c cs T _ (heap_alloc_new w _)
theorem setrow_below (w : World) (c cs : Array Value) (T : TypeId) : Below w.heap.size w ((w.alloc (.cells c T)).setRow w.heap.size cs) := by
  refine ⟨rfl, rfl, rfl, by simp, fun k hk => ?_⟩
  refine Eq.trans ?_ (heap_alloc_old w (.cells c T) hk)
  simp only [World.setRow, Array.getElem?_modify]
  rw [if_neg (by omega)]

set_option maxRecDepth 100000 in
set_option maxHeartbeats 1600000 in
theorem kinds_any (w : World) : Calls Tryz.prog 75 #[] w fun e w' => e = .returned (.agg kindsA) ∧ Below w.heap.size w w' := by
  have hsz : (Tryz.prog.info? 112).map (·.size) = some 40 := by kernel_rfl
  go_enter Tryz.func75, Tryz.ntmps75
  go_upto_region 1 with (fail)
  refine wp_region_lit ?_
  refine wpList_buildTo rfl 87 _ rfl (some 1) rfl #[.string ⟨#[97, 108, 108]⟩, .int .i64 0, .func (.func 86) #[] #[], .func (.func 87) #[] #[], .func (.func 88) #[] #[]] (by kernel_rfl) ?_
  refine wpList_buildTo rfl 87 _ rfl (some 2) rfl #[.string ⟨#[120, 60, 61]⟩, .int .i64 0, .func (.func 89) #[] #[], .func (.func 90) #[] #[], .func (.func 91) #[] #[]] (by kernel_rfl) ?_
  refine wpList_buildTo rfl 87 _ rfl (some 3) rfl #[.string ⟨#[118, 60, 61]⟩, .int .i64 0, .func (.func 89) #[] #[], .func (.func 90) #[] #[], .func (.func 92) #[] #[]] (by kernel_rfl) ?_
  refine wpList_buildTo rfl 87 _ rfl (some 4) rfl #[.string ⟨#[118, 37]⟩, .int .i64 0, .func (.func 93) #[] #[], .func (.func 94) #[] #[], .func (.func 95) #[] #[]] (by kernel_rfl) ?_
  refine wpList_buildTo rfl 87 _ rfl (some 5) rfl #[.string ⟨#[33]⟩, .int .i64 1, .func (.func 86) #[] #[], .func (.func 96) #[] #[], .func (.func 97) #[] #[]] (by kernel_rfl) ?_
  refine wpList_buildTo rfl 87 _ rfl (some 6) rfl #[.string ⟨#[38]⟩, .int .i64 2, .func (.func 86) #[] #[], .func (.func 98) #[] #[], .func (.func 99) #[] #[]] (by kernel_rfl) ?_
  refine wpList_buildTo rfl 87 _ rfl (some 7) rfl #[.string ⟨#[124]⟩, .int .i64 2, .func (.func 86) #[] #[], .func (.func 98) #[] #[], .func (.func 100) #[] #[]] (by kernel_rfl) ?_
  refine wpList_buildTo rfl 112 _ rfl (some 8) rfl kindsA (by kernel_rfl) ?_
  refine wpList_store_rowTo rfl 112 (.tmp 0) (.tmp 8) rfl rfl w.heap.size kindsA rfl rfl 112 kindsZ (heap_alloc_new w _) hsz rfl kindsA_one ?_
  go_wp2
  refine bodyPost_ret (results_cell_row (p := 0) (ty := 112) rfl _ _ w.heap.size 112 kindsA (0, 0) _ rfl (setrow_new w _ _ _) Tryz.underlying112 rfl hsz) rfl ⟨rfl, setrow_below w _ _ _⟩

end Go.Proofs.YtiijdacnfhiagaaGreatDoor
