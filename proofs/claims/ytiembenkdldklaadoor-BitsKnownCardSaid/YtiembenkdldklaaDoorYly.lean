/-
  The library's table, as the statements of layer 8 list it: what the condition gives the walks, and that the program's own start meets it.
-/
import Derived.Test.YtiembenkdldklaaDoorRows
import Derived.Test.YtiembenkdldklaaDoorYm
import Derived.Test.YtiembenkdldklaaDoorTie
import Derived.ProofKit
import Derived.LaidMore
import Derived.OpenShut
import Derived.Stop.Joined
import Derived.Lib.LaidTab
namespace Go.Proofs.YtiembenkdldklaaDoor
open Go.ChangeShapes Go.WideShapes Go.ChangeAt Go.RowKit
set_option linter.unusedVariables false

abbrev laidL : List (String × DataW Unit) := [("math/bits.deBruijn64tab", Rows.laid_math_bits_deBruijn64tab)]
theorem gTable : Tryd.prog.globalNamed "math/bits.deBruijn64tab" = some 0 := by kernel_rfl
theorem tTable : (Tryd.prog.globals[0]?).map (·.type) = some 79 := by kernel_rfl

/-- The door's own heap meets the condition. -/
theorem door_met (os : Os) (args : Array Value) : laidMetH Tryd.prog laidL ((World.doorLaid Tryd.prog 400 os).forCall (fun _ _ => 0) ⟨#[], args, []⟩).memory :=
  laidMetH_of_parts3 (fuel := 8) (laidMet_of_run' 8 (by kernel_rfl) (by kernel_rfl)) (by kernel_rfl) (by kernel_rfl)

theorem tab_of_laid {W : World} (h : laidMetH Tryd.prog laidL W) : BTab W := by
  rw [MakeChecks.laidMetH_plain _ _ _ (by kernel_rfl)] at h
  have hT : Lib.TabIs Tryd.prog W "math/bits.deBruijn64tab" .u8 (Lib.deBruijn64tab.map fun (n : Nat) => (n : Int)) :=
    Lib.tabIs_of_head gTable tTable Tryd.underlying79 Tryd.underlying5 (by kernel_rfl) (by kernel_rfl) h
  have hl : Lib.deBruijn64tab.length = 64 := by decide
  have hc : ∀ k, k < 64 → W.cell? ⟨0, k, none⟩ = some (.int .u8 (Lib.deBruijn64tab.getD k 0 : Nat)) := by
    intro k hk
    rw [hT.cell gTable k (by rw [List.length_map, hl]; exact hk)]
    simp [List.getD_eq_getElem?_getD, show k < Lib.deBruijn64tab.length by rw [hl]; exact hk]
  exact ⟨World.block_lt_of_cell? W _ (hc 0 (by decide)), hc⟩

end Go.Proofs.YtiembenkdldklaaDoor
