/-
  The program's table, as the statements of layer 2 list it: what the condition gives the walks, and that the program's own start meets it.
-/
import Derived.Test.YtedglcbeheeonaaDoorRows
import Derived.Test.YtedglcbeheeonaaDoorTak
import Derived.Test.YtedglcbeheeonaaDoorTie
import Derived.ProofKit
import Derived.LaidMore
import Derived.OpenShut
import Derived.Stop.Joined
import Derived.Lib.LaidTab
namespace Go.Proofs.YtedglcbeheeonaaDoor
open Go.ChangeShapes Go.WideShapes Go.ChangeAt Go.RowKit
set_option linter.unusedVariables false

abbrev laidL : List (String × DataW Unit) := [("alibi/crc.halves", Rows.laid_alibi_crc_halves)]
theorem gHalves : Tryd.prog.globalNamed "alibi/crc.halves" = some 0 := by kernel_rfl
theorem tHalves : (Tryd.prog.globals[0]?).map (·.type) = some 94 := by kernel_rfl

/-- The door's own heap meets the condition. -/
theorem door_met (os : Os) (args : Array Value) : laidMetH Tryd.prog laidL ((World.doorLaid Tryd.prog 400 os).forCall (fun _ _ => 0) ⟨#[], args, []⟩).memory :=
  laidMetH_of_parts3 (fuel := 8) (laidMet_of_run' 8 (by kernel_rfl) (by kernel_rfl)) (by kernel_rfl) (by kernel_rfl)

theorem tab_of_laid {W : World} (h : laidMetH Tryd.prog laidL W) : Tab W := by
  rw [MakeChecks.laidMetH_plain _ _ _ (by kernel_rfl)] at h
  have hT : Lib.TabIs Tryd.prog W "alibi/crc.halves" .u32 (tbl.map fun (n : Nat) => (n : Int)) :=
    Lib.tabIs_of_head gHalves tHalves Tryd.underlying94 Tryd.underlying66 (by kernel_rfl) (by kernel_rfl) h
  have hc : ∀ k, k < 16 → W.cell? ⟨0, k, none⟩ = some (.int .u32 (tb k : Nat)) := by
    intro k hk
    rw [hT.cell gHalves k (by simpa [tbl] using hk)]
    unfold tb
    have : k < (tbl.map fun (n : Nat) => (n : Int)).length := by simpa [tbl] using hk
    simp [List.getD_eq_getElem?_getD, show k < tbl.length from hk]
  exact ⟨World.block_lt_of_cell? W _ (hc 0 (by decide)), hc⟩

end Go.Proofs.YtedglcbeheeonaaDoor
