/-
  How many digits of a word are set: the sum by pairs, quads, bytes, as math/bits reckons it. No program is named here.
-/
import Derived.Test.YtiembenkdldklaaDoorYa
namespace Go.Proofs.YtiembenkdldklaaDoor
open Go
set_option linter.unusedVariables false

theorem and_split (t u v a b : Nat) (hu : u < 2 ^ t) (ha : a < 2 ^ t) : (u + 2 ^ t * v) &&& (a + 2 ^ t * b) = (u &&& a) + 2 ^ t * (v &&& b) := by
  have h1 : (u &&& a) < 2 ^ t := Nat.and_lt_two_pow _ ha
  rw [Nat.add_comm u, Nat.add_comm a, Nat.add_comm (u &&& a)]
  apply Nat.eq_of_testBit_eq
  intro j
  rw [Nat.testBit_and, Nat.testBit_two_pow_mul_add _ hu, Nat.testBit_two_pow_mul_add _ ha, Nat.testBit_two_pow_mul_add _ h1]
  split
  · rw [Nat.testBit_and]
  · rw [Nat.testBit_and]

/-- Every other part of s digits. -/
def msk (s : Nat) : Nat → Nat
  | 0 => 0
  | n + 1 => (2 ^ s - 1) + 2 ^ (2 * s) * msk s n
/-- The sums by pairs of parts. -/
def prs (s : Nat) : Nat → Nat → Nat
  | 0, _ => 0
  | n + 1, x => (x % 2 ^ s + x / 2 ^ s % 2 ^ s) + 2 ^ (2 * s) * prs s n (x / 2 ^ (2 * s))
/-- The sum of n digits. -/
def dsum (B : Nat) : Nat → Nat → Nat
  | 0, _ => 0
  | n + 1, x => x % B + dsum B n (x / B)
/-- n digits, none above d. -/
def Dle (B d : Nat) : Nat → Nat → Prop
  | 0, x => x = 0
  | n + 1, x => x % B ≤ d ∧ Dle B d n (x / B)

theorem sq_pow (s : Nat) : (2 : Nat) ^ (2 * s) = 2 ^ s * 2 ^ s := by rw [← Nat.pow_add]; congr 1; omega
theorem low_and (s x : Nat) : x % 2 ^ (2 * s) &&& (2 ^ s - 1) = x % 2 ^ s := by
  rw [Nat.and_two_pow_sub_one_eq_mod, sq_pow, Nat.mod_mul_right_mod]
theorem and_msk (s n x : Nat) : x &&& msk s (n + 1) = x % 2 ^ s + 2 ^ (2 * s) * (x / 2 ^ (2 * s) &&& msk s n) := by
  have hp := Nat.two_pow_pos s
  have hlt : 2 ^ s - 1 < 2 ^ (2 * s) := by
    have : 2 ^ s ≤ 2 ^ (2 * s) := Nat.pow_le_pow_right (by decide) (by omega)
    omega
  conv => lhs; rw [← Nat.mod_add_div x (2 ^ (2 * s))]
  rw [msk, and_split _ _ _ _ _ (Nat.mod_lt _ (Nat.two_pow_pos _)) hlt, low_and]
theorem step_pairs (s : Nat) : ∀ n x, (x / 2 ^ s &&& msk s n) + (x &&& msk s n) = prs s n x := by
  intro n
  induction n with
  | zero => intro x; simp [msk, prs]
  | succ n ih =>
    intro x
    rw [and_msk, and_msk, prs, ← ih, Nat.div_div_eq_div_mul, Nat.div_div_eq_div_mul, Nat.mul_comm (2 ^ s), Nat.mul_add]
    omega
theorem dsum_prs (s : Nat) (hs : 0 < s) : ∀ n x, dsum (2 ^ (2 * s)) n (prs s n x) = dsum (2 ^ s) (2 * n) x := by
  intro n
  induction n with
  | zero => intro x; rfl
  | succ n ih =>
    intro x
    have hp := Nat.two_pow_pos s
    have h2 : 2 ≤ 2 ^ s := by
      have : 2 ^ 1 ≤ 2 ^ s := Nat.pow_le_pow_right (by decide) hs
      omega
    have h1 : x % 2 ^ s < 2 ^ s := Nat.mod_lt _ hp
    have h3 : x / 2 ^ s % 2 ^ s < 2 ^ s := Nat.mod_lt _ hp
    have h4 : 2 * 2 ^ s ≤ 2 ^ s * 2 ^ s := Nat.mul_le_mul_right _ h2
    have hlt : x % 2 ^ s + x / 2 ^ s % 2 ^ s < 2 ^ (2 * s) := by rw [sq_pow]; omega
    rw [prs, dsum, Nat.add_mul_mod_self_left, Nat.mod_eq_of_lt hlt, Nat.add_mul_div_left _ _ (Nat.two_pow_pos _), Nat.div_eq_of_lt hlt, Nat.zero_add, ih,
      show 2 * (n + 1) = (2 * n + 1) + 1 by omega, dsum, dsum, Nat.div_div_eq_div_mul, ← sq_pow]
    omega
theorem dle_prs (s d : Nat) (hd : 2 * d < 2 ^ (2 * s)) : ∀ n x, Dle (2 ^ s) d (2 * n) x → Dle (2 ^ (2 * s)) (2 * d) n (prs s n x) := by
  intro n
  induction n with
  | zero => intro x _; rfl
  | succ n ih =>
    intro x h
    rw [show 2 * (n + 1) = (2 * n + 1) + 1 by omega, Dle, Dle] at h
    obtain ⟨h1, h2, h3⟩ := h
    have hlt : x % 2 ^ s + x / 2 ^ s % 2 ^ s < 2 ^ (2 * s) := by omega
    rw [Nat.div_div_eq_div_mul, ← sq_pow] at h3
    rw [prs, Dle, Nat.add_mul_mod_self_left, Nat.mod_eq_of_lt hlt, Nat.add_mul_div_left _ _ (Nat.two_pow_pos _), Nat.div_eq_of_lt hlt, Nat.zero_add]
    exact ⟨by omega, ih _ h3⟩
theorem step_quads : ∀ n x, Dle 16 4 (2 * n) x → (x / 16 + x) &&& msk 4 n = prs 4 n x := by
  intro n
  induction n with
  | zero => intro x _; simp [msk, prs]
  | succ n ih =>
    intro x h
    rw [show 2 * (n + 1) = (2 * n + 1) + 1 by omega, Dle, Dle] at h
    obtain ⟨h1, h2, h3⟩ := h
    rw [Nat.div_div_eq_div_mul] at h3
    have hc : x / 256 % 16 ≤ 4 := by
      cases n with
      | zero => simp [Dle] at h3; omega
      | succ n => rw [show 2 * (n + 1) = (2 * n + 1) + 1 by omega, Dle] at h3; exact h3.1
    have e : x / 16 + x = ((x % 16 + x / 16 % 16) + 16 * (x / 16 % 16 + x / 256 % 16)) + 2 ^ 8 * (x / 256 / 16 + x / 256) := by omega
    have e2 : ((x % 16 + x / 16 % 16) + 16 * (x / 16 % 16 + x / 256 % 16)) &&& 15 = x % 16 + x / 16 % 16 := by
      have := Nat.and_two_pow_sub_one_eq_mod ((x % 16 + x / 16 % 16) + 16 * (x / 16 % 16 + x / 256 % 16)) 4
      rw [show (2 : Nat) ^ 4 - 1 = 15 from rfl] at this
      rw [this]; omega
    rw [e, msk, show (2 : Nat) ^ 4 - 1 = 15 from rfl, show 2 * 4 = 8 from rfl, and_split 8 _ _ _ _ (by omega) (by decide), e2, ih _ h3]
    rfl

theorem dsum_bits : ∀ n x, dsum 2 n x = (List.range n).countP fun j => x.testBit j := by
  intro n
  induction n with
  | zero => intro x; rfl
  | succ n ih =>
    intro x
    rw [dsum, ih, List.range_succ_eq_map, List.countP_cons, List.countP_map]
    have e : ((fun j => x.testBit j) ∘ Nat.succ) = fun j => (x / 2).testBit j := by funext j; simp [Nat.testBit_succ]
    rw [e, Nat.testBit_zero]
    have : x % 2 < 2 := Nat.mod_lt _ (by decide)
    by_cases h : x % 2 = 1
    · simp [h]; omega
    · have : x % 2 = 0 := by omega
      simp [this]
theorem dle_bits : ∀ n x, x < 2 ^ n → Dle 2 1 n x := by
  intro n
  induction n with
  | zero => intro x h; simp at h; exact h
  | succ n ih =>
    intro x h
    exact ⟨by omega, ih _ (by rw [Nat.pow_succ] at h; omega)⟩

/-- Behind each step. -/
def pop1 (x : Nat) : Nat := (x / 2 &&& 6148914691236517205) + (x &&& 6148914691236517205)
def pop2 (x : Nat) : Nat := (x / 4 &&& 3689348814741910323) + (x &&& 3689348814741910323)
def pop3 (x : Nat) : Nat := (x / 16 + x) &&& 1085102592571150095
def pop4 (x : Nat) : Nat := x + x / 256
def pop5 (x : Nat) : Nat := x + x / 65536
def pop6 (x : Nat) : Nat := x + x / 4294967296

set_option maxHeartbeats 1000000 in
theorem pop_tail (c0 c1 c2 c3 c4 c5 c6 c7 y : Nat) (h0 : c0 ≤ 8) (h1 : c1 ≤ 8) (h2 : c2 ≤ 8) (h3 : c3 ≤ 8) (h4 : c4 ≤ 8) (h5 : c5 ≤ 8) (h6 : c6 ≤ 8) (h7 : c7 ≤ 8)
    (hy : y = c0 + 256 * c1 + 65536 * c2 + 16777216 * c3 + 4294967296 * c4 + 1099511627776 * c5 + 281474976710656 * c6 + 72057594037927936 * c7) :
    pop4 y < 18446744073709551616 ∧ pop5 (pop4 y) < 18446744073709551616 ∧ pop6 (pop5 (pop4 y)) < 9223372036854775808 ∧ pop6 (pop5 (pop4 y)) % 128 = c0 + (c1 + (c2 + (c3 + (c4 + (c5 + (c6 + (c7 + 0))))))) := by
  have y4 : pop4 y = (c0 + c1) + 256 * (c1 + c2) + 65536 * (c2 + c3) + 16777216 * (c3 + c4) + 4294967296 * (c4 + c5) + 1099511627776 * (c5 + c6) + 281474976710656 * (c6 + c7) + 72057594037927936 * c7 := by
    unfold pop4
    have : y / 256 = c1 + 256 * c2 + 65536 * c3 + 16777216 * c4 + 4294967296 * c5 + 1099511627776 * c6 + 281474976710656 * c7 := by omega
    omega
  clear hy
  generalize pop4 y = z at *
  have y5 : pop5 z = (c0 + c1 + c2 + c3) + 256 * (c1 + c2 + c3 + c4) + 65536 * (c2 + c3 + c4 + c5) + 16777216 * (c3 + c4 + c5 + c6) + 4294967296 * (c4 + c5 + c6 + c7) + 1099511627776 * (c5 + c6 + c7) + 281474976710656 * (c6 + c7) + 72057594037927936 * c7 := by
    unfold pop5
    have : z / 65536 = (c2 + c3) + 256 * (c3 + c4) + 65536 * (c4 + c5) + 16777216 * (c5 + c6) + 4294967296 * (c6 + c7) + 1099511627776 * c7 := by omega
    omega
  have hz : z < 18446744073709551616 := by omega
  clear y4
  generalize pop5 z = t at *
  have y6 : t / 4294967296 = (c4 + c5 + c6 + c7) + 256 * (c5 + c6 + c7) + 65536 * (c6 + c7) + 16777216 * c7 := by omega
  unfold pop6
  refine ⟨hz, by omega, by omega, by omega⟩

set_option maxHeartbeats 1000000 in
theorem pop_all {x : Nat} (h : x < 18446744073709551616) :
    pop1 x < 18446744073709551616 ∧ pop2 (pop1 x) < 18446744073709551616 ∧ pop2 (pop1 x) / 16 + pop2 (pop1 x) < 18446744073709551616 ∧ pop4 (pop3 (pop2 (pop1 x))) < 18446744073709551616 ∧
      pop5 (pop4 (pop3 (pop2 (pop1 x)))) < 18446744073709551616 ∧ pop6 (pop5 (pop4 (pop3 (pop2 (pop1 x))))) < 9223372036854775808 ∧
      pop6 (pop5 (pop4 (pop3 (pop2 (pop1 x))))) % 128 = (bl x).length := by
  have e1 : pop1 x = prs 1 32 x := step_pairs 1 32 x
  have e2 : pop2 (pop1 x) = prs 2 16 (pop1 x) := step_pairs 2 16 _
  have d0 := dle_bits 64 x h
  have d1 : Dle 4 2 32 (pop1 x) := by rw [e1]; exact dle_prs 1 1 (by decide) 32 x d0
  have d2 : Dle 16 4 16 (pop2 (pop1 x)) := by rw [e2]; exact dle_prs 2 2 (by decide) 16 _ d1
  have e3 : pop3 (pop2 (pop1 x)) = prs 4 8 (pop2 (pop1 x)) := step_quads 8 _ d2
  have d3 : Dle 256 8 8 (pop3 (pop2 (pop1 x))) := by rw [e3]; exact dle_prs 4 4 (by decide) 8 _ d2
  have s1 : dsum 4 32 (pop1 x) = dsum 2 64 x := by rw [e1]; exact dsum_prs 1 (by decide) 32 x
  have s2 : dsum 16 16 (pop2 (pop1 x)) = dsum 4 32 (pop1 x) := by rw [e2]; exact dsum_prs 2 (by decide) 16 _
  have s3 : dsum 256 8 (pop3 (pop2 (pop1 x))) = dsum 16 16 (pop2 (pop1 x)) := by rw [e3]; exact dsum_prs 4 (by decide) 8 _
  have hs : dsum 256 8 (pop3 (pop2 (pop1 x))) = (bl x).length := by rw [s3, s2, s1, dsum_bits, bl, List.countP_eq_length_filter]
  have b1 : pop1 x < 18446744073709551616 := by
    have k1 : x / 2 &&& 6148914691236517205 ≤ 6148914691236517205 := Nat.and_le_right
    have k2 : x &&& 6148914691236517205 ≤ 6148914691236517205 := Nat.and_le_right
    unfold pop1; omega
  have b2 : pop2 (pop1 x) ≤ 7378697629483820646 := by
    have k1 : pop1 x / 4 &&& 3689348814741910323 ≤ 3689348814741910323 := Nat.and_le_right
    have k2 : pop1 x &&& 3689348814741910323 ≤ 3689348814741910323 := Nat.and_le_right
    unfold pop2; omega
  generalize pop3 (pop2 (pop1 x)) = y at *
  rw [← hs]
  obtain ⟨h0, h1, h2, h3, h4, h5, h6, h7, h8⟩ := d3
  have h9 : y / 256 / 256 / 256 / 256 / 256 / 256 / 256 / 256 = 0 := h8
  clear h8 d0 d1 d2 s1 s2 s3 hs e3 e2 e1 h
  have hT := pop_tail (y % 256) (y / 256 % 256) (y / 256 / 256 % 256) (y / 256 / 256 / 256 % 256) (y / 256 / 256 / 256 / 256 % 256) (y / 256 / 256 / 256 / 256 / 256 % 256) (y / 256 / 256 / 256 / 256 / 256 / 256 % 256) (y / 256 / 256 / 256 / 256 / 256 / 256 / 256 % 256) y h0 h1 h2 h3 h4 h5 h6 h7 (by omega)
  exact ⟨b1, by omega, by omega, hT⟩

end Go.Proofs.YtiembenkdldklaaDoor
