/-
  Plain facts on the check of bytes, byte by byte: half a byte's table gives the register's four steps; a row of bytes' check is its digits' check. No program is named here.
-/
import Derived.Test.YtedglcbeheeonaaDoorCma
namespace Go.Proofs.YtedglcbeheeonaaDoor
set_option linter.unusedSimpArgs false

def tbl : List Nat := [0, 498536548, 997073096, 651767980, 1994146192, 1802195444, 1303535960, 1342533948, 3988292384, 4027552580, 3604390888, 3412177804, 2607071920, 2262029012, 2685067896, 3183342108]
def tb (k : Nat) : Nat := tbl.getD k 0
/-- Half a byte's four steps. -/
def nib (v : Nat) : Nat := (v / 16) ^^^ tb (v % 16)
def byt (v c : Nat) : Nat := nib (nib (v ^^^ c))
def regs (v : Nat) (l : List Nat) : Nat := l.foldl byt v
def neg (v : Nat) : Nat := 4294967295 - v
/-- The check of a row of bytes. -/
def crcN (l : List Nat) : Nat := neg (regs 4294967295 l)
def digs (c : Nat) : List Bool := (List.range 8).map c.testBit
def digits (l : List Nat) : List Bool := l.flatMap digs

theorem tb_lt (k : Nat) : tb k < 4294967296 := by
  unfold tb
  by_cases h : k < 16
  · have : ∀ k : Fin 16, tbl.getD k.1 0 < 4294967296 := by decide
    exact this ⟨k, h⟩
  · rw [List.getD_eq_getElem?_getD, List.getElem?_eq_none (by simp [tbl]; omega)]; decide
theorem nib_lt {v : Nat} (h : v < 4294967296) : nib v < 4294967296 := by
  have : v / 16 < 2 ^ 32 := by omega
  exact Nat.xor_lt_two_pow (n := 32) this (tb_lt _)
theorem byt_lt {v c : Nat} (h : v < 4294967296) (hc : c < 256) : byt v c < 4294967296 :=
  nib_lt (nib_lt (Nat.xor_lt_two_pow (n := 32) h (by omega)))
theorem regs_cons (v c : Nat) (l : List Nat) : regs v (c :: l) = regs (byt v c) l := rfl
theorem regs_append (v : Nat) (l m : List Nat) : regs v (l ++ m) = regs (regs v l) m := by simp [regs]
theorem regs_lt : ∀ (l : List Nat) {v : Nat}, v < 4294967296 → (∀ c ∈ l, c < 256) → regs v l < 4294967296
  | [], _, h, _ => h
  | c :: l, _, h, hl => regs_lt l (byt_lt h (hl c (by simp))) fun x hx => hl x (by simp [hx])
theorem neg_neg {v : Nat} (h : v < 4294967296) : neg (neg v) = v := by unfold neg; omega
theorem neg_lt (v : Nat) : neg v < 4294967296 := by unfold neg; omega
theorem crcN_lt (l : List Nat) : crcN l < 4294967296 := neg_lt _
/-- The bytes of l come behind those of m. -/
theorem crcN_append (m l : List Nat) (hm : ∀ c ∈ m, c < 256) : crcN (m ++ l) = neg (regs (neg (crcN m)) l) := by
  unfold crcN
  rw [regs_append, neg_neg (regs_lt m (by omega) hm)]
theorem crcN_nil : crcN [] = 0 := rfl

/-! ### Digits -/
theorem digs_length (c : Nat) : (digs c).length = 8 := by simp [digs]
theorem digs_get (c i : Nat) : (digs c).getD i false = (decide (i < 8) && c.testBit i) := by
  unfold digs
  rw [List.getD_eq_getElem?_getD, List.getElem?_map]
  by_cases h : i < 8
  · rw [List.getElem?_range h]; simp [h]
  · rw [List.getElem?_eq_none (by simp; omega)]; simp [h]
theorem digits_cons (c : Nat) (l : List Nat) : digits (c :: l) = digs c ++ digits l := by simp [digits]
theorem digits_append (l m : List Nat) : digits (l ++ m) = digits l ++ digits m := by simp [digits]
theorem digits_length : ∀ l : List Nat, (digits l).length = 8 * l.length
  | [] => rfl
  | c :: l => by rw [digits_cons, List.length_append, digs_length, digits_length l, List.length_cons]; omega
theorem digits_get : ∀ (l : List Nat) (p : Nat), p < 8 * l.length → (digits l).getD p false = (l.getD (p / 8) 0).testBit (p % 8)
  | [], p, h => by simp at h
  | c :: l, p, h => by
    rw [digits_cons, List.getD_eq_getElem?_getD]
    by_cases h8 : p < 8
    · rw [List.getElem?_append_left (by rw [digs_length]; exact h8), ← List.getD_eq_getElem?_getD, digs_get, Nat.div_eq_of_lt h8, Nat.mod_eq_of_lt h8]; simp [h8]
    · rw [List.getElem?_append_right (by rw [digs_length]; omega), ← List.getD_eq_getElem?_getD, digs_length, digits_get l (p - 8) (by simp at h; omega)]
      obtain ⟨q, rfl⟩ : ∃ q, p = q + 8 := ⟨p - 8, by omega⟩
      rw [Nat.add_sub_cancel, Nat.add_div_right _ (by decide), Nat.add_mod_right, List.getD_cons_succ]

/-! ### Half a byte, a byte, a row -/
theorem xor_nat (a b : Nat) : BitVec.ofNat 32 (a ^^^ b) = BitVec.ofNat 32 a ^^^ BitVec.ofNat 32 b := by
  apply BitVec.eq_of_getLsbD_eq
  intro i hi
  simp [BitVec.getLsbD_ofNat, hi]
def chalf4 (r : BitVec 32) : BitVec 32 := chalf (chalf (chalf (chalf r)))
theorem chalf4_xor (a b : BitVec 32) : chalf4 (a ^^^ b) = chalf4 a ^^^ chalf4 b := by unfold chalf4; simp only [chalf_xor]
theorem chalf4_low : ∀ k : Fin 16, chalf4 (BitVec.ofNat 32 k.1) = BitVec.ofNat 32 (tb k.1) := by decide +kernel
theorem chalf4_high {h : Nat} (hh : h < 268435456) : chalf4 (BitVec.ofNat 32 (16 * h)) = BitVec.ofNat 32 h := by
  have bit : ∀ k, k ≤ 3 → (BitVec.ofNat 32 (2 ^ k * h)).getLsbD 31 = false := by
    intro k hk
    rw [BitVec.getLsbD_ofNat, Nat.testBit_lt_two_pow]
    · simp
    · have : 2 ^ k ≤ 2 ^ 3 := Nat.pow_le_pow_right (by decide) hk
      have : 2 ^ k * h ≤ 2 ^ 3 * h := Nat.mul_le_mul_right _ this
      omega
  have shl : ∀ k, BitVec.ofNat 32 (2 ^ (k + 1) * h) = BitVec.ofNat 32 (2 ^ k * h) <<< 1 := by
    intro k
    apply BitVec.eq_of_toNat_eq
    rw [BitVec.toNat_shiftLeft, BitVec.toNat_ofNat, BitVec.toNat_ofNat, Nat.shiftLeft_eq, Nat.pow_succ]
    rw [Nat.mod_mul_mod]
    congr 1
    rw [Nat.pow_one, Nat.mul_right_comm]
  have step : ∀ k, k ≤ 3 → chalf (BitVec.ofNat 32 (2 ^ (k + 1) * h)) = BitVec.ofNat 32 (2 ^ k * h) := by
    intro k hk
    rw [shl, chalf_shl (bit k hk)]
  unfold chalf4
  rw [show 16 * h = 2 ^ (3 + 1) * h from rfl, step 3 (by omega), step 2 (by omega), step 1 (by omega), step 0 (by omega)]
  simp
theorem ofNat_nib {v : Nat} (h : v < 4294967296) : BitVec.ofNat 32 (nib v) = chalf4 (BitVec.ofNat 32 v) := by
  have e : v = (16 * (v / 16)) ^^^ (v % 16) := by
    have := Nat.two_pow_add_eq_or_of_lt (i := 4) (b := v % 16) (Nat.mod_lt _ (by decide)) (v / 16)
    apply Nat.eq_of_testBit_eq
    intro i
    rw [Nat.testBit_xor]
    have d1 : (16 * (v / 16)).testBit i = (decide (4 ≤ i) && v.testBit i) := by
      rw [show (16 : Nat) = 2 ^ 4 from rfl, Nat.testBit_two_pow_mul]
      by_cases h4 : 4 ≤ i
      · rw [Nat.testBit_div_two_pow, Nat.sub_add_cancel h4]
      · simp [h4]
    have d2 : (v % 16).testBit i = (decide (i < 4) && v.testBit i) := by
      rw [show (16 : Nat) = 2 ^ 4 from rfl, Nat.testBit_mod_two_pow]
    rw [d1, d2]
    by_cases h4 : 4 ≤ i
    · have : ¬ i < 4 := by omega
      simp [h4, this]
    · have : i < 4 := by omega
      simp [h4, this]
  unfold nib
  rw [xor_nat, ← chalf4_high (by omega), ← chalf4_low ⟨v % 16, Nat.mod_lt _ (by decide)⟩, ← chalf4_xor, ← xor_nat, ← e]
theorem cpack_digs {c : Nat} (h : c < 256) : cpack (digs c) = BitVec.ofNat 32 c := by
  apply BitVec.eq_of_getLsbD_eq
  intro i hi
  rw [cpack_get _ _ (by rw [digs_length]; decide), digs_get, BitVec.getLsbD_ofNat]
  by_cases h8 : i < 8
  · simp [h8, hi]
  · have : c.testBit i = false := Nat.testBit_lt_two_pow (Nat.lt_of_lt_of_le h (Nat.pow_le_pow_right (n := 2) (by decide) (show 8 ≤ i by omega)))
    simp [h8, this]
theorem creg_digs {v c : Nat} (h : v < 4294967296) (hc : c < 256) : creg (BitVec.ofNat 32 v) (digs c) = BitVec.ofNat 32 (byt v c) := by
  rw [creg_pack _ _ (by rw [digs_length]; decide), digs_length, cpack_digs hc, ← xor_nat]
  have hx : v ^^^ c < 4294967296 := Nat.xor_lt_two_pow (n := 32) h (by omega)
  have z : ∀ r, creg r (List.replicate 8 false) = chalf4 (chalf4 r) := by
    intro r
    have s : ∀ r, cstep r false = chalf r := by intro r; unfold cstep cbit; simp
    simp only [creg, List.replicate, List.foldl, s, chalf4]
  rw [z, ← ofNat_nib hx, ← ofNat_nib (nib_lt hx)]
  rfl
theorem creg_digits : ∀ (l : List Nat) (v : Nat), v < 4294967296 → (∀ c ∈ l, c < 256) → creg (BitVec.ofNat 32 v) (digits l) = BitVec.ofNat 32 (regs v l)
  | [], _, _, _ => rfl
  | c :: l, v, h, hl => by
    rw [digits_cons, creg_append, creg_digs h (hl c (by simp)), regs_cons]
    exact creg_digits l _ (byt_lt h (hl c (by simp))) fun x hx => hl x (by simp [hx])
/-- A ROW OF BYTES' CHECK IS ITS DIGITS' CHECK. -/
theorem crcN_eq (l : List Nat) (hl : ∀ c ∈ l, c < 256) : crcN l = (ccheck (digits l)).toNat := by
  unfold ccheck crcN neg
  rw [show BitVec.allOnes 32 = BitVec.ofNat 32 4294967295 by decide, creg_digits l _ (by decide) hl]
  have := regs_lt l (v := 4294967295) (by decide) hl
  rw [BitVec.toNat_not, BitVec.toNat_ofNat, Nat.mod_eq_of_lt (by omega)]
theorem crcN_ne {l m : List Nat} (hl : ∀ c ∈ l, c < 256) (hm : ∀ c ∈ m, c < 256) (h : ccheck (digits l) ≠ ccheck (digits m)) : crcN l ≠ crcN m := by
  rw [crcN_eq l hl, crcN_eq m hm]
  intro e
  exact h (BitVec.eq_of_toNat_eq e)

/-! ### Three rows joined -/
theorem digs_xor (a b : Nat) : digs (a ^^^ b) = List.zipWith (· ^^ ·) (digs a) (digs b) := by
  apply List.ext_getElem (by simp [digs])
  intro i h1 h2
  simp only [digs, List.getElem_zipWith, List.getElem_map, Nat.testBit_xor]
theorem digits_xor : ∀ (l m : List Nat), l.length = m.length → digits (List.zipWith (· ^^^ ·) l m) = List.zipWith (· ^^ ·) (digits l) (digits m)
  | [], [], _ => rfl
  | [], _ :: _, h => by simp at h
  | _ :: _, [], h => by simp at h
  | a :: l, b :: m, h => by
    rw [List.zipWith_cons_cons, digits_cons, digits_cons, digits_cons, digs_xor, digits_xor l m (by simpa using h), List.zipWith_append (by rw [digs_length, digs_length])]
theorem xor_byte {l m : List Nat} (hl : ∀ c ∈ l, c < 256) (hm : ∀ c ∈ m, c < 256) : ∀ c ∈ List.zipWith (· ^^^ ·) l m, c < 256 := by
  intro c hc
  rw [List.mem_iff_getElem] at hc
  obtain ⟨i, hi, rfl⟩ := hc
  rw [List.getElem_zipWith]
  simp at hi
  exact Nat.xor_lt_two_pow (n := 8) (hl _ (List.getElem_mem _)) (hm _ (List.getElem_mem _))
theorem crcN_join (a b c : List Nat) (ha : ∀ x ∈ a, x < 256) (hb : ∀ x ∈ b, x < 256) (hc : ∀ x ∈ c, x < 256) (h1 : a.length = b.length) (h2 : a.length = c.length) :
    crcN (List.zipWith (· ^^^ ·) (List.zipWith (· ^^^ ·) a b) c) = crcN a ^^^ crcN b ^^^ crcN c := by
  have hl : (List.zipWith (· ^^^ ·) a b).length = c.length := by simp; omega
  rw [crcN_eq _ (xor_byte (xor_byte ha hb) hc), crcN_eq a ha, crcN_eq b hb, crcN_eq c hc, digits_xor _ _ hl, digits_xor _ _ h1,
    ccheck_join _ _ _ (by rw [digits_length, digits_length, h1]) (by rw [digits_length, digits_length, h2]), BitVec.toNat_xor, BitVec.toNat_xor]

/-! ### Digits turned within 32 side by side -/
/-- m is l, with the digits at + j turned that the first i digits of d name. -/
def Mod (l m : List Nat) (a d i : Nat) : Prop :=
  m.length = l.length ∧ (∀ x ∈ m, x < 256) ∧ ∀ p, p < 8 * l.length → (m.getD (p / 8) 0).testBit (p % 8) = ((l.getD (p / 8) 0).testBit (p % 8) ^^ (decide (a ≤ p) && decide (p < a + i) && d.testBit (p - a)))
/-- Has one been turned? -/
def chg (n a d i : Nat) : Bool := (List.range i).any fun j => d.testBit j && decide (a + j < n)
theorem Mod.zero (l : List Nat) (a d : Nat) (h : ∀ x ∈ l, x < 256) : Mod l l a d 0 :=
  ⟨rfl, h, fun p _ => by
    have : (decide (a ≤ p) && decide (p < a + 0)) = false := by
      by_cases h1 : a ≤ p
      · have : ¬ p < a + 0 := by omega
        simp [this]
      · simp [h1]
    rw [this]; simp⟩
theorem chg_zero (n a d : Nat) : chg n a d 0 = false := rfl
theorem chg_succ (n a d i : Nat) : chg n a d (i + 1) = (chg n a d i || (d.testBit i && decide (a + i < n))) := by
  unfold chg; rw [List.range_succ, List.any_append]; simp
theorem Mod.skip {l m : List Nat} {a d i : Nat} (h : Mod l m a d i) (hn : ¬ (d.testBit i = true ∧ a + i < 8 * l.length)) : Mod l m a d (i + 1) :=
  ⟨h.1, h.2.1, fun p hp => by
    rw [h.2.2 p hp]
    congr 1
    by_cases h1 : p = a + i
    · subst h1
      have : d.testBit i = false := by
        cases hd : d.testBit i with
        | false => rfl
        | true => exact absurd ⟨hd, hp⟩ hn
      rw [Nat.add_sub_cancel_left, this]; simp
    · have : decide (p < a + (i + 1)) = decide (p < a + i) := by rw [decide_eq_decide]; omega
      rw [this]⟩
theorem getD_set (m : List Nat) (k x j : Nat) (hk : k < m.length) : (m.set k x).getD j 0 = if j = k then x else m.getD j 0 := by
  simp only [List.getD_eq_getElem?_getD, List.getElem?_set]
  by_cases h : k = j
  · subst h; simp [hk]
  · have : ¬ j = k := fun e => h e.symm
    simp [h, this]
theorem Mod.turn {l m : List Nat} {a d i : Nat} (h : Mod l m a d i) (hd : d.testBit i = true) (ha : a + i < 8 * l.length) :
    Mod l (m.set ((a + i) / 8) (m.getD ((a + i) / 8) 0 ^^^ 2 ^ ((a + i) % 8))) a d (i + 1) := by
  have hk : (a + i) / 8 < m.length := by rw [h.1]; omega
  have hlt : m.getD ((a + i) / 8) 0 ^^^ 2 ^ ((a + i) % 8) < 256 := by
    refine Nat.xor_lt_two_pow (n := 8) ?_ (Nat.pow_lt_pow_right (by decide) (Nat.mod_lt _ (by decide)))
    rw [List.getD_eq_getElem?_getD, List.getElem?_eq_getElem hk]
    exact h.2.1 _ (List.getElem_mem _)
  refine ⟨by simp [h.1], ?_, fun p hp => ?_⟩
  · intro x hx
    rcases List.mem_or_eq_of_mem_set hx with hx | rfl
    · exact h.2.1 x hx
    · exact hlt
  · rw [getD_set _ _ _ _ hk]
    have hp' := h.2.2 p hp
    by_cases h1 : p / 8 = (a + i) / 8
    · rw [if_pos h1, Nat.testBit_xor, ← h1, hp', Nat.testBit_two_pow]
      by_cases h2 : p = a + i
      · subst h2
        have e1 : ¬ (a + i < a + i) := by omega
        rw [Nat.add_sub_cancel_left, hd]
        simp
      · have e2 : ¬ ((a + i) % 8 = p % 8) := by omega
        have e3 : decide (p < a + (i + 1)) = decide (p < a + i) := by rw [decide_eq_decide]; omega
        rw [e3]; simp [e2]
    · rw [if_neg h1, hp']
      have e3 : decide (p < a + (i + 1)) = decide (p < a + i) := by rw [decide_eq_decide]; omega
      rw [e3]
/-- THE CHECK IS ANOTHER ONE JUST IF A DIGIT WAS TURNED. -/
theorem Mod.finds {l m : List Nat} {a d : Nat} (h : Mod l m a d 32) (hl : ∀ x ∈ l, x < 256) (ha : a < 8 * l.length) : decide (crcN m ≠ crcN l) = chg (8 * l.length) a d 32 := by
  have len : (digits m).length = (digits l).length := by rw [digits_length, digits_length, h.1]
  have gl : ∀ p, p < 8 * l.length → (digits m).getD p false = ((digits l).getD p false ^^ (decide (a ≤ p) && decide (p < a + 32) && d.testBit (p - a))) := by
    intro p hp
    rw [digits_get m p (by rw [h.1]; exact hp), digits_get l p hp, h.2.2 p hp]
  cases hc : chg (8 * l.length) a d 32 with
  | false =>
    have e : digits m = digits l := by
      apply List.ext_getElem len
      intro p h1 h2
      have hp : p < 8 * l.length := by rw [digits_length] at h2; exact h2
      have := gl p hp
      rw [List.getD_eq_getElem?_getD, List.getD_eq_getElem?_getD, List.getElem?_eq_getElem h1, List.getElem?_eq_getElem h2] at this
      simp only [Option.getD_some] at this
      rw [this]
      by_cases h3 : a ≤ p ∧ p < a + 32
      · have := (List.any_eq_false.1 hc) (p - a) (by rw [List.mem_range]; omega)
        rw [show a + (p - a) = p by omega] at this
        have hf : d.testBit (p - a) = false := by
          cases hd : d.testBit (p - a) with
          | false => rfl
          | true => rw [hd] at this; simp at this; omega
        rw [hf]; simp
      · have : (decide (a ≤ p) && decide (p < a + 32)) = false := by
          by_cases h4 : a ≤ p
          · have : ¬ p < a + 32 := fun h5 => h3 ⟨h4, h5⟩
            simp [this]
          · simp [h4]
        rw [this]; simp
    rw [crcN_eq m h.2.1, crcN_eq l hl, e]; simp
  | true =>
    rw [decide_eq_true_iff]
    obtain ⟨j, hj, hd⟩ := List.any_eq_true.1 hc
    rw [List.mem_range] at hj
    simp only [Bool.and_eq_true, decide_eq_true_eq] at hd
    let k := min 32 (8 * l.length - a)
    refine crcN_ne h.2.1 hl (ccheck_ne (p := a) (q := 8 * l.length - a - k) (d := (List.range k).map d.testBit) len ?_ (by simp [k]; omega) ?_)
    · apply List.ext_getElem
      · simp only [List.length_zipWith, List.length_append, List.length_replicate, List.length_map, List.length_range, digits_length, h.1]; omega
      · intro p h1 h2
        have hp : p < 8 * l.length := by simp only [List.length_zipWith, digits_length] at h1; omega
        have := gl p hp
        rw [List.getElem_zipWith]
        have h3 : p < (digits m).length := by rw [digits_length, h.1]; exact hp
        have h4 : p < (digits l).length := by rw [digits_length]; exact hp
        rw [List.getD_eq_getElem?_getD, List.getD_eq_getElem?_getD, List.getElem?_eq_getElem h3, List.getElem?_eq_getElem h4] at this
        simp only [Option.getD_some] at this
        rw [this]
        have e : ∀ x y : Bool, ((x ^^ y) ^^ x) = y := by decide
        rw [e]
        by_cases h5 : p < a
        · rw [List.getElem_append_left (by simp; omega), List.getElem_append_left (by simpa using h5), List.getElem_replicate]
          have : ¬ a ≤ p := by omega
          simp [this]
        · by_cases h6 : p < a + k
          · rw [List.getElem_append_left (by simp; omega), List.getElem_append_right (by simp; omega)]
            simp only [List.length_replicate, List.getElem_map, List.getElem_range]
            have h7 : a ≤ p := by omega
            have h8 : p < a + 32 := by omega
            simp [h7, h8]
          · rw [List.getElem_append_right (by simp; omega), List.getElem_replicate]
            have : ¬ p < a + 32 := by omega
            simp [this]
    · exact List.mem_map.2 ⟨j, by rw [List.mem_range]; omega, hd.1⟩

end Go.Proofs.YtedglcbeheeonaaDoor
