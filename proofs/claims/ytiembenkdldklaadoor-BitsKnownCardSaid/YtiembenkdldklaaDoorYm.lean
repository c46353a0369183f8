/-
  Layer 8: the program's small functions: TrailingZeros64, digit, below, least, Size, takes, word, words.
-/
import Derived.Test.YtiembenkdldklaaDoorYl
import Derived.Test.YtiembenkdldklaaDoorYd
namespace Go.Proofs.YtiembenkdldklaaDoor
open Go Go.RowKit
set_option linter.unusedVariables false

/-- The library's table. -/
def BTab (w : World) : Prop := 0 < w.heap.size ∧ ∀ j, j < 64 → w.cell? ⟨0, j, none⟩ = some (.int .u8 (Lib.deBruijn64tab.getD j 0 : Nat))
theorem BTab.below {B : Nat} {w w' : World} (h : BTab w) (hb : Below B w w') (hB : 0 < B) : BTab w' :=
  ⟨Nat.lt_of_lt_of_le h.1 hb.size, fun k hk => (hb.cell (p := ⟨0, k, none⟩) hB).trans (h.2 k hk)⟩
theorem BTab.turns {S : Nat → Prop} {w w' : World} (h : BTab w) (hb : Turns S w w') (hS : ¬ S 0) : BTab w' :=
  ⟨Nat.lt_of_lt_of_le h.1 hb.size, fun k hk => (World.cell?_of_block (hb.block 0 h.1 hS) : w'.cell? ⟨0, k, none⟩ = w.cell? ⟨0, k, none⟩).trans (h.2 k hk)⟩
theorem BTab.grown {w w' : World} {g : Option Nat} (h : BTab w) (hg : w.grownBy w' g) (h0 : g ≠ some 0) : BTab w' :=
  ⟨Nat.lt_of_lt_of_le h.1 hg.size, fun k hk => (World.cell?_of_block (hg.block 0 h.1 (fun e => h0 e.symm)) : w'.cell? ⟨0, k, none⟩ = w.cell? ⟨0, k, none⟩).trans (h.2 k hk)⟩

theorem ret_int' {k : IntKind} {a b : Int} (h : a = b) : Ending.returned (.int k a) = .returned (.int k b) := by rw [h]
theorem tz_key (x a : Nat) (hx : x < 18446744073709551616) (hx0 : x ≠ 0) (hlow : x &&& (18446744073709551616 - x) = a) :
    IntKind.u64.wrap (bits BinOp.and IntKind.u64 (x : Int) (IntKind.u64.wrap (-(x : Int))) * 285870213051353865) / 288230376151711744 = ((a * 285870213051353865 % 18446744073709551616 / 288230376151711744 : Nat) : Int) := by
  have e1 : IntKind.u64.wrap (-(x : Int)) = ((18446744073709551616 - x : Nat) : Int) := by rw [IntKind.wrap_u64]; omega
  rw [e1, bits_and_u64_nat x _ hx (by omega), hlow, IntKind.wrap_u64]
  omega

set_option maxHeartbeats 1000000 in
theorem ctz_core (x k idx : Nat) (w : World) (hx0 : ((x : Int) == 0) = false)
    (key : IntKind.u64.wrap (bits BinOp.and IntKind.u64 (x : Int) (IntKind.u64.wrap (-(x : Int))) * 285870213051353865) / 288230376151711744 = (idx : Int))
    (hi : idx < 64) (hk : k < 64) (hcell : w.cell? ⟨0, idx, none⟩ = some (.int .u8 (k : Int))) :
    Calls Tryd.prog 54 #[.int .u64 (x : Int)] w fun e w' => e = .returned (.int .i64 (k : Int)) ∧ w' = w := by
  go_enter Tryd.func54, Tryd.ntmps54
  go_wp2_with (simp only [key])
  go_ret
  exact ⟨rfl, rfl⟩
theorem ctz_any (x : Nat) (h0 : x ≠ 0) (hx : x < 18446744073709551616) (w : World) (hT : BTab w) : Calls Tryd.prog 54 #[.int .u64 (x : Int)] w fun e w' => e = .returned (.int .i64 (Lib.ctz 64 x : Int)) ∧ w' = w := by
  obtain ⟨hlow, hk⟩ := Lib.lowest_bit 64 x h0 hx
  obtain ⟨hi, htab⟩ := Lib.deBruijn64_at _ hk
  have hcell := hT.2 _ hi
  rw [htab] at hcell
  exact ctz_core x _ _ w (by simp; omega) (tz_key x _ hx h0 hlow) hi hk hcell

theorem pow_wrap {k : Nat} (h : k < 64) : IntKind.u64.wrap ((2 : Int) ^ k) = ((2 ^ k : Nat) : Int) := by
  rw [show ((2 : Int) ^ k) = ((2 ^ k : Nat) : Int) by rw [Int.natCast_pow]; rfl]
  exact u64_id (pow_lt64 h)
theorem digit_any (i : Nat) (w : World) : Calls Tryd.prog 33 #[.int .i64 (i : Int)] w fun e w' => e = .returned (.int .u64 ((2 ^ (i % 64) : Nat) : Int)) ∧ w' = w := by
  have hp := pow_wrap (k := i % 64) (by omega)
  generalize (2 ^ (i % 64) : Nat) = y at *
  go_enter Tryd.func33, Tryd.ntmps33
  go_wp2
  go_ret
  exact ⟨ret_int' hp, rfl⟩

/-- The lowest n digits. -/
def blw (n : Int) : Nat := 2 ^ min n.toNat 64 - 1
theorem below_any (n : Int) (w : World) : Calls Tryd.prog 48 #[.int .i64 n] w fun e w' => e = .returned (.int .u64 (blw n : Int)) ∧ w' = w := by
  have hcs : (n < 0 ∧ blw n = 0) ∨ (n = 0 ∧ blw n = 0) ∨ (∃ k : Nat, 0 < k ∧ k < 64 ∧ n = (k : Int) ∧ blw n = 2 ^ k - 1) ∨ (∃ k : Nat, 64 ≤ k ∧ n = (k : Int) ∧ blw n = 18446744073709551615) := by
    unfold blw
    rcases Int.lt_trichotomy n 0 with h | h | h
    · exact .inl ⟨h, by rw [show n.toNat = 0 by omega]; rfl⟩
    · exact .inr (.inl ⟨h, by rw [show n.toNat = 0 by omega]; rfl⟩)
    · by_cases h2 : n < 64
      · exact .inr (.inr (.inl ⟨n.toNat, by omega, by omega, by omega, by rw [Nat.min_eq_left (by omega)]⟩))
      · exact .inr (.inr (.inr ⟨n.toNat, by omega, by omega, by rw [Nat.min_eq_right (by omega)]⟩))
  rcases hcs with ⟨h, e⟩ | ⟨h, e⟩ | ⟨k, h1, h2, rfl, e⟩ | ⟨k, h1, rfl, e⟩
  · rw [e]
    clear e
    go_enter Tryd.func48, Tryd.ntmps48
    go_wp2
    go_ret
    exact ⟨rfl, rfl⟩
  · rw [e, h]
    clear e h
    go_enter Tryd.func48, Tryd.ntmps48
    go_wp2
    go_ret
    exact ⟨rfl, rfl⟩
  · rw [e]
    have hp := pow_wrap h2
    have hq : IntKind.u64.wrap (IntKind.u64.wrap ((2 : Int) ^ k) - 1) = ((2 ^ k - 1 : Nat) : Int) := by
      have h3 := Nat.two_pow_pos k
      have h4 := pow_lt64 h2
      rw [hp, IntKind.wrap_u64]
      omega
    clear e hp
    generalize (2 ^ k - 1 : Nat) = y at *
    have HQ := Lib_hid hq
    clear hq
    go_enter Tryd.func48, Tryd.ntmps48
    go_wp2
    go_ret
    exact ⟨ret_int' HQ.out, rfl⟩
  · rw [e]
    clear e
    go_enter Tryd.func48, Tryd.ntmps48
    go_wp2
    go_ret
    exact ⟨ret_int' (by decide), rfl⟩

theorem least_any (p x : Nat) (h0 : x ≠ 0) (hx : x < 18446744073709551616) (hp : p ≤ 1000000) (w : World) (hT : BTab w) : Calls Tryd.prog 49 #[.int .i64 (p : Int), .int .u64 (x : Int)] w fun e w' => e = .returned (.int .i64 ((64 * p + Lib.ctz 64 x : Nat) : Int)) ∧ w' = w := by
  have hc := ctz_any x h0 hx w hT
  have hk := (ctz_spec h0 hx).1
  have HC := Lib_hid hc
  clear hc hT h0 hx
  generalize Lib.ctz 64 x = k at *
  go_enter Tryd.func49, Tryd.ntmps49
  go_wp2_with fail
  refine HC.out.mono ?_
  rintro e w1 ⟨rfl, rfl⟩
  go_wp2
  go_ret
  exact ⟨ret_int' (by omega), rfl⟩

end Go.Proofs.YtiembenkdldklaaDoor
