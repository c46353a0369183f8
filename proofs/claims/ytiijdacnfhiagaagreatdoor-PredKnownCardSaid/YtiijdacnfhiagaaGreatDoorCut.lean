/-
  A slice of a slice of bytes, as the walk meets it: the new slice reads as the part.
-/
import Derived.Test.YtiijdacnfhiagaaGreatDoorBse
namespace Go.Proofs.YtiijdacnfhiagaaGreatDoor
open Go Go.RowKit
set_option linter.unusedVariables false

theorem size_byte (wx : World) : ((sizeOf 5).run Tryz.prog wx) = .ok 1 wx := by
  obtain ⟨i0, hi, hz0, hz1, hz2⟩ := info_parts Tryz.info5
  simp [sizeOf, typeInfo, hi, hz1]
theorem elem_bytes : Tryz.prog.elem 32 = 5 := by kernel_rfl

theorem bs_take (l : List Nat) (k : Nat) : bs (l.take k) = (bs l).take k := by simp [bs, List.map_take]
theorem bs_drop (l : List Nat) (k : Nat) : bs (l.drop k) = (bs l).drop k := by simp [bs, List.map_drop]

/-- b[:k] -/
theorem slice_hi {w : World} {B n c k : Nat} {A : Option Addr} {xs : List Value} (h : Rd w B 1 A n xs) (hk : k ≤ n) (hn : n ≤ c) :
    ∃ A2, (∀ wx, (Instr.slice 32 (.slice A n c) none (some (.int .i64 (k : Int))) none).run Tryz.prog wx = .ok (.slice A2 k c) wx) ∧ Rd w B 1 A2 k (xs.take k) := by
  have r := (h.take hk).cut (cap := c) (k := 0) (Nat.zero_le _) (by omega)
  simp only [List.drop_zero, Nat.sub_zero, Nat.mul_one] at r
  refine ⟨_, ?_, r⟩
  intro wx
  rw [run_slice_h wx 32 A n c (by rw [elem_bytes]; exact Tryz.underlying32) .i64 k (by omega) (by omega), elem_bytes, size_byte]
  simp [sliced, Result.andThen]

/-- b[j:] -/
theorem slice_lo {w : World} {B n c j : Nat} {A : Option Addr} {xs : List Value} (h : Rd w B 1 A n xs) (hj : j ≤ n) (hn : n ≤ c) :
    ∃ A2, (∀ wx, (Instr.slice 32 (.slice A n c) (some (.int .i64 (j : Int))) none none).run Tryz.prog wx = .ok (.slice A2 (n - j) (c - j)) wx) ∧ Rd w B 1 A2 (n - j) (xs.drop j) := by
  have r := h.cut (cap := c) (k := j) hj hn
  simp only [Nat.mul_one] at r
  refine ⟨_, ?_, r⟩
  intro wx
  rw [run_slice_l wx 32 A n c (by rw [elem_bytes]; exact Tryz.underlying32) .i64 j (by omega) (by omega), elem_bytes, size_byte]
  simp [sliced, Result.andThen]

/-- b[j:k] -/
theorem slice_lh {w : World} {B n c j k : Nat} {A : Option Addr} {xs : List Value} (h : Rd w B 1 A n xs) (hj : j ≤ k) (hk : k ≤ n) (hn : n ≤ c) :
    ∃ A2, (∀ wx, (Instr.slice 32 (.slice A n c) (some (.int .i64 (j : Int))) (some (.int .i64 (k : Int))) none).run Tryz.prog wx = .ok (.slice A2 (k - j) (c - j)) wx) ∧ Rd w B 1 A2 (k - j) ((xs.take k).drop j) := by
  have r := (h.take hk).cut (cap := c) (k := j) hj (by omega)
  simp only [Nat.mul_one] at r
  refine ⟨_, ?_, r⟩
  intro wx
  rw [run_slice_lh wx 32 A n c (by rw [elem_bytes]; exact Tryz.underlying32) .i64 .i64 j k (by omega) (by omega) (by omega), elem_bytes, size_byte]
  simp [sliced, Result.andThen]

end Go.Proofs.YtiijdacnfhiagaaGreatDoor
