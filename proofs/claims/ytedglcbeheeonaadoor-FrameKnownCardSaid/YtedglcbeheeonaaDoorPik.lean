/-
  The contract of the statements' helper Pick, for every number and a positive bound.
-/
import Derived.Test.YtedglcbeheeonaaDoorBse
namespace Go.Proofs.YtedglcbeheeonaaDoor
open Go Go.RowKit
set_option linter.unusedVariables false

theorem pick_plain (d : Int) (m : Nat) (hm : 0 < m) : ∃ k : Nat, k < m ∧ (d.tmod m + m).tmod m = (k : Int) := by
  have h1 : -(m : Int) < d.tmod m := Int.lt_tmod_of_pos d (by omega)
  have h2 : 0 ≤ d.tmod m + m := by omega
  rw [Int.tmod_eq_emod_of_nonneg h2]
  have h3 := Int.emod_lt_of_pos (d.tmod m + m) (show (0 : Int) < m by omega)
  have h4 := Int.emod_nonneg (d.tmod m + m) (show (m : Int) ≠ 0 by omega)
  exact ⟨((d.tmod m + m) % m).toNat, by omega, by omega⟩

set_option maxRecDepth 100000 in
theorem pickm_any (d : Int) (m : Nat) (w : World) (hm : 0 < m) (hm2 : m ≤ 1000000000) :
    Calls Tryd.prog 24 #[.int .i64 d, .int .i64 m] w fun e w' => ∃ k : Nat, e = .returned (.int .i64 k) ∧ k < m ∧ w = w' := by
  obtain ⟨k, hk, he⟩ := pick_plain d m hm
  have h1 : -(m : Int) < d.tmod m := Int.lt_tmod_of_pos d (by omega)
  have h2 : d.tmod m < m := Int.tmod_lt_of_pos d (by omega)
  rw [Int.tmod_eq_emod_of_nonneg (by omega)] at he
  have he2 := Lib_hid he
  have h0 : ¬ m = 0 := by omega
  clear he
  go_enter Tryd.func24, Tryd.ntmps24
  go_wp2
  go_ret
  exact ⟨k, ret_int he2.out, hk, rfl⟩

end Go.Proofs.YtedglcbeheeonaaDoor
