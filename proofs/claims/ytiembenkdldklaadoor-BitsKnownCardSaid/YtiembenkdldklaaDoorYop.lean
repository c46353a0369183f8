/-
  Layer 8: a row of numbers that came in.
-/
import Derived.Test.YtiembenkdldklaaDoorYz
import Derived.ProofKit
import Derived.OpenShut
namespace Go.Proofs.YtiembenkdldklaaDoor
open Go Go.RowKit
set_option linter.unusedVariables false

/-- A slice of integers that came in: nil; or a row of 'cap' cells, of which the first 'len' are its elements. -/
def IsRow (k : IntKind) (w : World) (a : Option Addr) (len cap : Nat) (zs : List Int) : Prop :=
  (a = none ∧ len = 0 ∧ cap = 0 ∧ zs = []) ∨
  ∃ x, a = some x ∧ len ≤ cap ∧ cap ≤ maxLen ∧ zs.length = cap ∧ (∀ i, i < zs.length → w.cell? (x.add i) = some (.int k (zs.getD i 0))) ∧ ∀ n ∈ zs, (Lit.int k n).wf = true

/-- It reads as its elements. -/
theorem IsRow.rd {w : World} {a : Option Addr} {len cap : Nat} {zs : List Int} (h : IsRow .i64 w a len cap zs) :
    ∃ l : List Int, Rd w w.heap.size 1 a len (iz l) ∧ l.length = len ∧ len ≤ cap ∧ cap ≤ 9223372036854775807 ∧ ∀ x ∈ l, -9223372036854775808 ≤ x ∧ x ≤ 9223372036854775807 := by
  rcases h with ⟨rfl, rfl, rfl, rfl⟩ | ⟨x, rfl, hl, hm, hz, hc, hw⟩
  · exact ⟨[], Rd.zero, rfl, Nat.le_refl _, by omega, by simp⟩
  · refine ⟨zs.take len, ⟨by rw [iz_length, List.length_take]; omega, fun h0 => ⟨x, rfl, ?_, fun j u hu => ?_⟩⟩, by rw [List.length_take]; omega, hl, by unfold maxLen at hm; omega, fun n hn => bounds_i64 (hw n (List.mem_of_mem_take hn))⟩
    · have := World.block_lt_of_cell? w _ (hc 0 (by omega))
      rwa [add_block] at this
    · have hj : j < len := by
        rcases Nat.lt_or_ge j len with h1 | h1
        · exact h1
        · rw [List.getElem?_eq_none (by rw [iz_length, List.length_take]; omega)] at hu; cases hu
      rw [hc j (by omega), List.getD_eq_getElem?_getD, List.getElem?_eq_getElem (show j < zs.length by omega)]
      rw [← hu]
      simp [iz, hj, show j < zs.length by omega]

end Go.Proofs.YtiembenkdldklaaDoor
