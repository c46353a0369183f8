/-
  Layer 8: the program's small functions: OnesCount64 and TrailingZeros64 of the library, digit, below, least.
-/
import Derived.Test.YtiembenkdldklaaDoorYc
import Derived.Lib.TrailingZeros
namespace Go.Proofs.YtiembenkdldklaaDoor
open Go Go.RowKit
set_option linter.unusedVariables false

theorem and_c (a c : Nat) (C : Int) (hC : C = (c : Int)) (hc : c < 18446744073709551616) (ha : a < 18446744073709551616) : bits .and .u64 (a : Int) C = ((a &&& c : Nat) : Int) := by rw [hC]; exact bits_and_u64_nat a c ha hc
theorem u64_id {n : Nat} (h : n < 18446744073709551616) : IntKind.u64.wrap (n : Int) = (n : Int) := by rw [IntKind.wrap_u64]; omega
theorem i64_id {n : Nat} (h : n < 9223372036854775808) : IntKind.i64.wrap (n : Int) = (n : Int) := by
  have h1 : (n : Int) % 2 ^ 64 = n := by omega
  simp only [IntKind.wrap, IntKind.bits, IntKind.signed, h1]
  rw [if_neg (by simp; omega)]
theorem and_i64 {a : Nat} (ha : a < 9223372036854775808) : bits .and .i64 (a : Int) 127 = ((a % 128 : Nat) : Int) := by
  have h1 : (BitVec.ofInt 64 (a : Int)).toNat = a := by
    rw [BitVec.ofInt_natCast, BitVec.toNat_ofNat]; exact Nat.mod_eq_of_lt (by omega)
  have h2 : (BitVec.ofInt 64 (127 : Int)).toNat = 127 := by decide
  show IntKind.i64.wrap ((BitVec.ofInt 64 (a : Int) &&& BitVec.ofInt 64 (127 : Int)).toNat : Int) = _
  rw [BitVec.toNat_and, h1, h2, show (127 : Nat) = 2 ^ 7 - 1 from rfl, Nat.and_two_pow_sub_one_eq_mod]
  exact i64_id (by omega)

set_option maxRecDepth 100000 in
set_option maxHeartbeats 1000000 in
theorem ones_any (x : Nat) (hx : x < 18446744073709551616) (w : World) : Calls Tryd.prog 35 #[.int .u64 (x : Int)] w fun e w' => e = .returned (.int .i64 ((bl x).length : Int)) ∧ w' = w := by
  obtain ⟨b1, b2, b3, b4, b5, b6, hall⟩ := pop_all hx
  rw [← hall]
  clear hall
  have e1 : IntKind.u64.wrap (bits BinOp.and IntKind.u64 ((x : Int) / 2) 6148914691236517205 + bits BinOp.and IntKind.u64 (x : Int) 6148914691236517205) = ((pop1 x : Nat) : Int) := by
    rw [show ((x : Int) / 2) = ((x / 2 : Nat) : Int) by omega, and_c (x / 2) 6148914691236517205 6148914691236517205 rfl (by omega) (by omega), and_c x 6148914691236517205 6148914691236517205 rfl (by omega) hx, ← Int.natCast_add]
    exact u64_id b1
  generalize pop1 x = x1 at *
  have e2 : IntKind.u64.wrap (bits BinOp.and IntKind.u64 ((x1 : Int) / 4) 3689348814741910323 + bits BinOp.and IntKind.u64 (x1 : Int) 3689348814741910323) = ((pop2 x1 : Nat) : Int) := by
    rw [show ((x1 : Int) / 4) = ((x1 / 4 : Nat) : Int) by omega, and_c (x1 / 4) 3689348814741910323 3689348814741910323 rfl (by omega) (by omega), and_c x1 3689348814741910323 3689348814741910323 rfl (by omega) b1, ← Int.natCast_add]
    exact u64_id b2
  generalize pop2 x1 = x2 at *
  have e3 : bits BinOp.and IntKind.u64 (IntKind.u64.wrap ((x2 : Int) / 16 + (x2 : Int))) 1085102592571150095 = ((pop3 x2 : Nat) : Int) := by
    rw [show ((x2 : Int) / 16 + (x2 : Int)) = ((x2 / 16 + x2 : Nat) : Int) by omega, u64_id b3, and_c (x2 / 16 + x2) 1085102592571150095 1085102592571150095 rfl (by omega) b3]
    rfl
  generalize pop3 x2 = x3 at *
  have e4 : IntKind.u64.wrap ((x3 : Int) + (x3 : Int) / 256) = ((pop4 x3 : Nat) : Int) := by
    rw [show ((x3 : Int) + (x3 : Int) / 256) = ((x3 + x3 / 256 : Nat) : Int) by omega]; exact u64_id b4
  generalize pop4 x3 = x4 at *
  have e5 : IntKind.u64.wrap ((x4 : Int) + (x4 : Int) / 65536) = ((pop5 x4 : Nat) : Int) := by
    rw [show ((x4 : Int) + (x4 : Int) / 65536) = ((x4 + x4 / 65536 : Nat) : Int) by omega]; exact u64_id b5
  generalize pop5 x4 = x5 at *
  have e6 : IntKind.u64.wrap ((x5 : Int) + (x5 : Int) / 4294967296) = ((pop6 x5 : Nat) : Int) := by
    rw [show ((x5 : Int) + (x5 : Int) / 4294967296) = ((x5 + x5 / 4294967296 : Nat) : Int) by omega]; exact u64_id (by unfold pop6 at b6; omega)
  generalize pop6 x5 = x6 at *
  have e7 : IntKind.i64.wrap (x6 : Int) = (x6 : Int) := i64_id b6
  have e8 := and_i64 b6
  clear b1 b2 b3 b4 b5 b6 hx
  go_enter Tryd.func35, Tryd.ntmps35
  go_wp2_with (simp only [e1, e2, e3, e4, e5, e6, e7, e8])
  go_ret
  exact ⟨rfl, rfl⟩

end Go.Proofs.YtiembenkdldklaaDoor
