/-
  Plain facts of layer 8: words of 64 digits, what is told of them. No program is named here.
-/
import Derived.Lib.TrailingZeros
import Derived.Laws.Bits64
import Derived.Laws.Bits64b
namespace Go.Proofs.YtiembenkdldklaaDoor
open Go
set_option linter.unusedVariables false

/-- The number whose first k digits are f's. -/
def wdN (f : Nat → Bool) : Nat → Nat
  | 0 => 0
  | k + 1 => 2 ^ k * (f k).toNat + wdN f k
theorem wdN_lt (f : Nat → Bool) : ∀ k, wdN f k < 2 ^ k := by
  intro k
  induction k with
  | zero => simp [wdN]
  | succ k ih =>
    rw [wdN, Nat.pow_succ]
    cases f k <;> simp <;> omega
theorem wdN_bit (f : Nat → Bool) : ∀ k j, (wdN f k).testBit j = (decide (j < k) && f j) := by
  intro k
  induction k with
  | zero => intro j; simp [wdN]
  | succ k ih =>
    intro j
    rw [wdN, Nat.testBit_two_pow_mul_add _ (wdN_lt f k)]
    by_cases h : j < k
    · rw [if_pos h, ih]; simp [h]; omega
    · rw [if_neg h]
      by_cases h2 : j = k
      · subst h2; cases f j <;> simp
      · have h3 : ¬ j < k + 1 := by omega
        have h4 : (f k).toNat.testBit (j - k) = false := Nat.testBit_lt_two_pow (Nat.lt_of_lt_of_le (show (f k).toNat < 2 by cases f k <;> simp) (by
          have : 2 ^ 1 ≤ 2 ^ (j - k) := Nat.pow_le_pow_right (by decide) (by omega)
          omega))
        rw [h4]; simp [h3]

/-- The word at p of a row of digits. -/
def wd (f : Nat → Bool) (p : Nat) : Nat := wdN (fun j => f (64 * p + j)) 64
theorem wd_lt (f : Nat → Bool) (p : Nat) : wd f p < 18446744073709551616 := wdN_lt _ 64
theorem wd_bit (f : Nat → Bool) (p j : Nat) : (wd f p).testBit j = (decide (j < 64) && f (64 * p + j)) := wdN_bit _ 64 j
theorem word_ext {x y : Nat} (hx : x < 18446744073709551616) (hy : y < 18446744073709551616) (h : ∀ j, j < 64 → x.testBit j = y.testBit j) : x = y := by
  apply Nat.eq_of_testBit_eq
  intro j
  by_cases hj : j < 64
  · exact h j hj
  · have : 2 ^ 64 ≤ 2 ^ j := Nat.pow_le_pow_right (by decide) (by omega)
    rw [Nat.testBit_lt_two_pow (show x < 2 ^ j by omega), Nat.testBit_lt_two_pow (show y < 2 ^ j by omega)]
theorem wd_ext {x : Nat} {f : Nat → Bool} {p : Nat} (hx : x < 18446744073709551616) (h : ∀ j, j < 64 → x.testBit j = f (64 * p + j)) : x = wd f p :=
  word_ext hx (wd_lt f p) fun j hj => by rw [h j hj, wd_bit]; simp [hj]
theorem wd_congr {f g : Nat → Bool} {p : Nat} (h : ∀ j, j < 64 → f (64 * p + j) = g (64 * p + j)) : wd f p = wd g p :=
  wd_ext (wd_lt f p) fun j hj => by rw [wd_bit, ← h j hj]; simp [hj]
theorem wd_inj {f g : Nat → Bool} {p : Nat} (h : wd f p = wd g p) : ∀ j, j < 64 → f (64 * p + j) = g (64 * p + j) := by
  intro j hj
  have := wd_bit f p j
  rw [h, wd_bit] at this
  simpa [hj] using this.symm
theorem wd_zero {f : Nat → Bool} {p : Nat} : wd f p = 0 ↔ ∀ j, j < 64 → f (64 * p + j) = false := by
  constructor
  · intro h j hj
    have := wd_bit f p j
    rw [h] at this
    simpa [hj] using this.symm
  · intro h
    exact (wd_ext (x := 0) (by decide) fun j hj => by rw [h j hj]; simp).symm

/-! ### Two words -/
/-- x without y's digits. -/
def andN (x y : Nat) : Nat := x &&& (18446744073709551615 - y)
theorem and_lt {x y : Nat} (h : x < 18446744073709551616) : x &&& y < 18446744073709551616 := Nat.lt_of_le_of_lt Nat.and_le_left h
theorem or_lt {x y : Nat} (h : x < 18446744073709551616) (k : y < 18446744073709551616) : x ||| y < 18446744073709551616 := Nat.or_lt_two_pow (n := 64) h k
theorem xor_lt {x y : Nat} (h : x < 18446744073709551616) (k : y < 18446744073709551616) : x ^^^ y < 18446744073709551616 := Nat.xor_lt_two_pow (n := 64) h k
theorem andN_lt {x y : Nat} (h : x < 18446744073709551616) : andN x y < 18446744073709551616 := and_lt h
theorem andN_bit {x y : Nat} (hy : y < 18446744073709551616) {j : Nat} (hj : j < 64) : (andN x y).testBit j = (x.testBit j && !y.testBit j) := by
  unfold andN
  rw [Nat.testBit_and]
  have : 18446744073709551615 - y = 2 ^ 64 - (y + 1) := by omega
  rw [this, Nat.testBit_two_pow_sub_succ (n := 64) hy]
  simp [hj]
theorem bits_not_u64_nat (a b : Nat) (ha : a < 18446744073709551616) (hb : b < 18446744073709551616) :
    bits .andNot .u64 (a : Int) (b : Int) = ((andN a b : Nat) : Int) := by
  have hx : andN a b < 2 ^ 64 := andN_lt ha
  have h1 : (BitVec.ofInt 64 (a : Int)).toNat = a := by
    rw [BitVec.ofInt_natCast, BitVec.toNat_ofNat]; exact Nat.mod_eq_of_lt (by omega)
  have h2 : (BitVec.ofInt 64 (b : Int)).toNat = b := by
    rw [BitVec.ofInt_natCast, BitVec.toNat_ofNat]; exact Nat.mod_eq_of_lt (by omega)
  show IntKind.u64.wrap ((BitVec.ofInt 64 (a : Int) &&& ~~~ BitVec.ofInt 64 (b : Int)).toNat : Int) = _
  rw [BitVec.toNat_and, BitVec.toNat_not, h1, h2, IntKind.wrap_u64]
  show ((a &&& (2 ^ 64 - 1 - b) : Nat) : Int) % _ = _
  have e : (2 ^ 64 - 1 - b) = 18446744073709551615 - b := by omega
  rw [e]
  unfold andN at hx ⊢
  omega

theorem wd_or (f g : Nat → Bool) (p : Nat) : wd f p ||| wd g p = wd (fun i => f i || g i) p :=
  wd_ext (or_lt (wd_lt f p) (wd_lt g p)) fun j hj => by rw [Nat.testBit_or, wd_bit, wd_bit]; simp [hj]
theorem wd_and (f g : Nat → Bool) (p : Nat) : wd f p &&& wd g p = wd (fun i => f i && g i) p :=
  wd_ext (and_lt (wd_lt f p)) fun j hj => by rw [Nat.testBit_and, wd_bit, wd_bit]; simp [hj]
theorem wd_not (f g : Nat → Bool) (p : Nat) : andN (wd f p) (wd g p) = wd (fun i => f i && !g i) p :=
  wd_ext (andN_lt (wd_lt f p)) fun j hj => by rw [andN_bit (wd_lt g p) hj, wd_bit, wd_bit]; simp [hj]
theorem wd_xor (f g : Nat → Bool) (p : Nat) : wd f p ^^^ wd g p = wd (fun i => f i != g i) p :=
  wd_ext (xor_lt (wd_lt f p) (wd_lt g p)) fun j hj => by rw [Nat.testBit_xor, wd_bit, wd_bit]; simp [hj]

/-! ### One digit -/
theorem pow_lt64 {k : Nat} (h : k < 64) : 2 ^ k < 18446744073709551616 := Nat.pow_lt_pow_right (a := 2) (by decide) h
theorem digit_has (f : Nat → Bool) (i : Nat) : (wd f (i / 64) &&& 2 ^ (i % 64) = 0) ↔ f i = false := by
  have e : 64 * (i / 64) + i % 64 = i := by omega
  have h64 : i % 64 < 64 := by omega
  have hb := wd_bit f (i / 64) (i % 64)
  rw [e] at hb
  constructor
  · intro h
    have h2 : (wd f (i / 64) &&& 2 ^ (i % 64)).testBit (i % 64) = false := by rw [h]; simp
    rw [Nat.testBit_and, hb, Nat.testBit_two_pow] at h2
    simpa [h64] using h2
  · intro h
    apply Nat.eq_of_testBit_eq
    intro j
    rw [Nat.testBit_and, Nat.testBit_two_pow, Nat.zero_testBit]
    by_cases hj : i % 64 = j
    · subst hj; rw [hb]; simp [h]
    · simp [hj]
/-- f, with b at i. -/
def upd (f : Nat → Bool) (i : Nat) (b : Bool) : Nat → Bool := fun j => if j = i then b else f j
theorem digit_add (f : Nat → Bool) (i : Nat) : wd f (i / 64) ||| 2 ^ (i % 64) = wd (upd f i true) (i / 64) := by
  refine wd_ext (or_lt (wd_lt _ _) (pow_lt64 (by omega))) fun j hj => ?_
  rw [Nat.testBit_or, wd_bit, Nat.testBit_two_pow]
  unfold upd
  by_cases h : i % 64 = j
  · have e : 64 * (i / 64) + j = i := by omega
    simp [h, e]
  · have e : 64 * (i / 64) + j ≠ i := by omega
    simp [h, e, hj]
theorem digit_rem (f : Nat → Bool) (i : Nat) : andN (wd f (i / 64)) (2 ^ (i % 64)) = wd (upd f i false) (i / 64) := by
  refine wd_ext (andN_lt (wd_lt _ _)) fun j hj => ?_
  rw [andN_bit (pow_lt64 (by omega)) hj, wd_bit, Nat.testBit_two_pow]
  unfold upd
  by_cases h : i % 64 = j
  · have e : 64 * (i / 64) + j = i := by omega
    simp [h, e]
  · have e : 64 * (i / 64) + j ≠ i := by omega
    simp [h, e, hj]
theorem digit_other (f : Nat → Bool) (i p : Nat) (b : Bool) (h : p ≠ i / 64) : wd (upd f i b) p = wd f p := by
  refine wd_congr fun j hj => ?_
  unfold upd
  rw [if_neg (by omega)]

/-! ### The digits below a place -/
theorem below_bit {n j : Nat} (hn : n ≤ 64) (hj : j < 64) : (2 ^ n - 1).testBit j = decide (j < n) := by
  rw [Nat.testBit_two_pow_sub_one]
theorem below_lt {n : Nat} (hn : n ≤ 64) : 2 ^ n - 1 < 18446744073709551616 := by
  have : 2 ^ n ≤ 2 ^ 64 := Nat.pow_le_pow_right (by decide) hn
  have := Nat.two_pow_pos n
  omega

/-! ### The least digit -/
theorem ctz_spec {x : Nat} (h0 : x ≠ 0) (h : x < 18446744073709551616) :
    Lib.ctz 64 x < 64 ∧ x.testBit (Lib.ctz 64 x) = true ∧ (∀ j, j < Lib.ctz 64 x → x.testBit j = false) ∧
    (x &&& (x - 1)) < 18446744073709551616 ∧ ∀ j, (x &&& (x - 1)).testBit j = (x.testBit j && !decide (j = Lib.ctz 64 x)) := by
  obtain ⟨m, hm, hk⟩ := Lib.ctzFrom_spec 64 x (by omega) h
  have e : Lib.ctz 64 x = Lib.ctzFrom 64 x := by simp [Lib.ctz, h0]
  rw [e]
  generalize Lib.ctzFrom 64 x = k at *
  subst hm
  have bit : ∀ j, (2 ^ k * (2 * m + 1)).testBit j = (decide (k ≤ j) && (2 * m + 1).testBit (j - k)) := fun j => by rw [Nat.mul_comm, Nat.testBit_mul_two_pow]
  have e1 : 2 ^ k * (2 * m + 1) - 1 = 2 ^ k * (2 * m) + (2 ^ k - 1) := by
    have := Nat.two_pow_pos k
    rw [Nat.mul_add]; omega
  have bit1 : ∀ j, (2 ^ k * (2 * m + 1) - 1).testBit j = (if j < k then true else (2 * m).testBit (j - k)) := by
    intro j
    rw [e1, Nat.testBit_two_pow_mul_add _ (by have := Nat.two_pow_pos k; omega)]
    by_cases hj : j < k
    · rw [if_pos hj, if_pos hj, Nat.testBit_two_pow_sub_one]; simp [hj]
    · rw [if_neg hj, if_neg hj]
  refine ⟨hk, ?_, fun j hj => ?_, and_lt h, fun j => ?_⟩
  · rw [bit]; simp
  · rw [bit]; simp; omega
  · rw [Nat.testBit_and, bit1, bit]
    by_cases hj : j < k
    · have : ¬ k ≤ j := by omega
      simp [this]
    · have h2 : k ≤ j := by omega
      rw [if_neg hj]
      by_cases h3 : j = k
      · subst h3; simp
      · obtain ⟨d, hd⟩ : ∃ d, j - k = d + 1 := ⟨j - k - 1, by omega⟩
        rw [hd, Nat.testBit_succ, Nat.testBit_succ]
        have d1 : (2 * m + 1) / 2 = m := by omega
        have d2 : 2 * m / 2 = m := by omega
        rw [d1, d2]
        simp [h2, h3]

/-- The digits of a word, rising. -/
def bl (x : Nat) : List Nat := (List.range 64).filter fun j => x.testBit j
theorem bl_zero : bl 0 = [] := by simp [bl]
theorem filter_first (f g : Nat → Bool) (k n : Nat) (hk : k < n) (hf : f k = true) (h1 : ∀ j, j < k → f j = false) (h2 : ∀ j, g j = (f j && !decide (j = k))) :
    (List.range n).filter f = k :: (List.range n).filter g := by
  have e : List.range n = List.range k ++ k :: (List.range (n - k - 1)).map (k + 1 + ·) := by
    have := List.range_add (n := k) (m := n - k)
    rw [show k + (n - k) = n by omega] at this
    rw [this, show n - k = (n - k - 1) + 1 by omega, List.range_succ_eq_map]
    simp [Function.comp_def, Nat.add_assoc, Nat.add_comm 1]
  rw [e, List.filter_append, List.filter_append, List.filter_cons, List.filter_cons]
  have a1 : (List.range k).filter f = [] := List.filter_eq_nil_iff.2 fun j hj => by simp at hj; simp [h1 j hj]
  have a2 : (List.range k).filter g = [] := List.filter_eq_nil_iff.2 fun j hj => by simp at hj; rw [h2, h1 j hj]; simp
  have a3 : g k = false := by rw [h2]; simp
  rw [a1, a2, hf, a3]
  simp only [List.nil_append, if_true, Bool.false_eq_true, if_false, List.cons.injEq, true_and]
  apply List.filter_congr
  intro j hj
  simp only [List.mem_map, List.mem_range] at hj
  obtain ⟨d, _, rfl⟩ := hj
  rw [h2]
  simp; omega
theorem bl_step {x : Nat} (h0 : x ≠ 0) (h : x < 18446744073709551616) : bl x = Lib.ctz 64 x :: bl (x &&& (x - 1)) := by
  obtain ⟨c1, c2, c3, _, c5⟩ := ctz_spec h0 h
  exact filter_first _ _ _ 64 c1 c2 c3 c5

end Go.Proofs.YtiembenkdldklaaDoor
