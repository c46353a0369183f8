/-
  Layer 4: the program's kinds, and kindOf.
-/
import Derived.Test.YtbcadnkdehknoaaGreatDoorTcn
import Derived.Great.BuildSlice
import Derived.Deep.DeepCutAuto
import Derived.Deep.CutBlock
namespace Go.Proofs.YtbcadnkdehknoaaGreatDoor
open Go Go.RowKit
set_option linter.unusedVariables false

/-- The functions of a kind: what it names, what fits, what it asks. -/
def numF (k : Int) : FuncId := if k = 2 ∨ k = 3 then 206 else if k = 4 then 210 else 203
def fitF (k : Int) : FuncId := if k = 1 then 204 else if k = 2 ∨ k = 3 then 207 else if k = 4 then 211 else if k = 5 then 213 else 215
def askF (k : Int) : FuncId := if k = 1 then 205 else if k = 2 then 208 else if k = 3 then 209 else if k = 4 then 212 else if k = 5 then 214 else if k = 6 then 216 else 217
def partN (k : Int) : Nat := if k = 5 then 1 else if k = 6 ∨ k = 7 then 2 else 0
def wordA (k : Int) : Array UInt8 := if k = 1 then #[97, 108, 108] else if k = 2 then #[120, 60, 61] else if k = 3 then #[118, 60, 61] else if k = 4 then #[118, 37] else if k = 5 then #[33] else if k = 6 then #[38] else #[124]

/-- A kind as kindOf answers it. -/
def kindC (k : Int) : List Value := [.string ⟨wordA k⟩, .int .i64 (partN k : Nat), .func (.func (numF k)) #[] #[], .func (.func (fitF k)) #[] #[], .func (.func (askF k)) #[] #[]]
def kindV (k : Int) : Value := .agg (kindC k).toArray
def kindsA : Array Value := #[.string ⟨#[]⟩, .int .i64 0, .nilFunc, .nilFunc, .nilFunc,
  .string ⟨#[97, 108, 108]⟩, .int .i64 0, .func (.func 203) #[] #[], .func (.func 204) #[] #[], .func (.func 205) #[] #[],
  .string ⟨#[120, 60, 61]⟩, .int .i64 0, .func (.func 206) #[] #[], .func (.func 207) #[] #[], .func (.func 208) #[] #[],
  .string ⟨#[118, 60, 61]⟩, .int .i64 0, .func (.func 206) #[] #[], .func (.func 207) #[] #[], .func (.func 209) #[] #[],
  .string ⟨#[118, 37]⟩, .int .i64 0, .func (.func 210) #[] #[], .func (.func 211) #[] #[], .func (.func 212) #[] #[],
  .string ⟨#[33]⟩, .int .i64 1, .func (.func 203) #[] #[], .func (.func 213) #[] #[], .func (.func 214) #[] #[],
  .string ⟨#[38]⟩, .int .i64 2, .func (.func 203) #[] #[], .func (.func 215) #[] #[], .func (.func 216) #[] #[],
  .string ⟨#[124]⟩, .int .i64 2, .func (.func 203) #[] #[], .func (.func 215) #[] #[], .func (.func 217) #[] #[]]
def kindsZ : Array Value := ((List.replicate 8 [Value.string ⟨#[]⟩, .int .i64 0, .nilFunc, .nilFunc, .nilFunc]).flatten).toArray

theorem kindsA_one : (kindsA.all fun x => x.oneCell') = true := by kernel_rfl

theorem setrow_new (w : World) (c cs : Array Value) (T : TypeId) : ((w.alloc (.cells c T)).setRow w.heap.size cs).heap[w.heap.size]? = some (.cells cs T (0, 0)) :=
  setRow_heap _ _ c cs T _ (heap_alloc_new w _)
theorem setrow_below (w : World) (c cs : Array Value) (T : TypeId) : Below w.heap.size w ((w.alloc (.cells c T)).setRow w.heap.size cs) := by
  refine ⟨rfl, rfl, rfl, by simp, fun k hk => ?_⟩
  refine Eq.trans ?_ (heap_alloc_old w (.cells c T) hk)
  simp only [World.setRow, Array.getElem?_modify]
  rw [if_neg (by omega)]

set_option maxRecDepth 100000 in
set_option maxHeartbeats 1600000 in
theorem kinds_any (w : World) : Calls Tryz.prog 181 #[] w fun e w' => e = .returned (.agg kindsA) ∧ Below w.heap.size w w' := by
  have hsz : (Tryz.prog.info? 223).map (·.size) = some 40 := by kernel_rfl
  go_enter Tryz.func181, Tryz.ntmps181
  go_upto_region 1 with (fail)
  refine wp_region_lit ?_
  refine wpList_buildTo rfl 195 _ rfl (some 1) rfl #[.string ⟨#[97, 108, 108]⟩, .int .i64 0, .func (.func 203) #[] #[], .func (.func 204) #[] #[], .func (.func 205) #[] #[]] (by kernel_rfl) ?_
  refine wpList_buildTo rfl 195 _ rfl (some 2) rfl #[.string ⟨#[120, 60, 61]⟩, .int .i64 0, .func (.func 206) #[] #[], .func (.func 207) #[] #[], .func (.func 208) #[] #[]] (by kernel_rfl) ?_
  refine wpList_buildTo rfl 195 _ rfl (some 3) rfl #[.string ⟨#[118, 60, 61]⟩, .int .i64 0, .func (.func 206) #[] #[], .func (.func 207) #[] #[], .func (.func 209) #[] #[]] (by kernel_rfl) ?_
  refine wpList_buildTo rfl 195 _ rfl (some 4) rfl #[.string ⟨#[118, 37]⟩, .int .i64 0, .func (.func 210) #[] #[], .func (.func 211) #[] #[], .func (.func 212) #[] #[]] (by kernel_rfl) ?_
  refine wpList_buildTo rfl 195 _ rfl (some 5) rfl #[.string ⟨#[33]⟩, .int .i64 1, .func (.func 203) #[] #[], .func (.func 213) #[] #[], .func (.func 214) #[] #[]] (by kernel_rfl) ?_
  refine wpList_buildTo rfl 195 _ rfl (some 6) rfl #[.string ⟨#[38]⟩, .int .i64 2, .func (.func 203) #[] #[], .func (.func 215) #[] #[], .func (.func 216) #[] #[]] (by kernel_rfl) ?_
  refine wpList_buildTo rfl 195 _ rfl (some 7) rfl #[.string ⟨#[124]⟩, .int .i64 2, .func (.func 203) #[] #[], .func (.func 215) #[] #[], .func (.func 217) #[] #[]] (by kernel_rfl) ?_
  refine wpList_buildTo rfl 223 _ rfl (some 8) rfl kindsA (by kernel_rfl) ?_
  refine wpList_store_rowTo rfl 223 (.tmp 0) (.tmp 8) rfl rfl w.heap.size kindsA rfl rfl 223 kindsZ (heap_alloc_new w _) hsz rfl kindsA_one ?_
  go_wp2
  refine bodyPost_ret (results_cell_row (p := 0) (ty := 223) rfl _ _ w.heap.size 223 kindsA (0, 0) _ rfl (setrow_new w _ _ _) Tryz.underlying223 rfl hsz) rfl ⟨rfl, setrow_below w _ _ _⟩

end Go.Proofs.YtbcadnkdehknoaaGreatDoor
