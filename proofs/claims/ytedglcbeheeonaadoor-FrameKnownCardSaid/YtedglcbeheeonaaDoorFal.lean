/-
  The contract of the program's frame.All.
-/
import Derived.Test.YtedglcbeheeonaaDoorFge
namespace Go.Proofs.YtedglcbeheeonaaDoor
open Go Go.RowKit
set_option linter.unusedVariables false

set_option maxRecDepth 100000 in
theorem all_any (B : Nat) (A : Option Addr) (n c : Nat) (l : List Nat) (w : World) (hr : Rd w B 1 A n (bs l)) (hn : n ≤ 1000000000) :
    Calls Tryd.prog 18 #[.slice A n c] w fun e w' => ∃ A' c', e = .returned (.func (.func 32) #[.agg #[.slice A' l.length c', .int .i64 0]] #[]) ∧ w'.ownsRow w.heap.size 5 1 (.slice A' l.length c') l.length (bs l) ∧ Below w.heap.size w w' := by
  go_enter Tryd.func18, Tryd.ntmps18
  go_wp2_with fail
  refine (bclone_any B A n c l w hr (by omega)).mono ?_
  rintro e w1 ⟨A1, c1, rfl, ho1, hb1⟩
  go_wp2_with fail
  go_ret
  exact ⟨A1, c1, rfl, own_below ho1 (below_new _ _) (own_lt ho1), hb1.alloc hb1.size _⟩

end Go.Proofs.YtedglcbeheeonaaDoor
