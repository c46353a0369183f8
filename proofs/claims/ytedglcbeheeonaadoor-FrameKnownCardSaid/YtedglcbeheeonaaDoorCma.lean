/-
  Plain facts on the check of bytes (CRC-32 of IEEE 802.3, its digits turned about), for all rows of digits: it is linear; a difference that lies within 32 digits side by side is never lost; the division of a row by the polynomial gives it. No program is named here.
-/
import GoSem.Claim
namespace Go.Proofs.YtedglcbeheeonaaDoor

/-- The polynomial's powers below 32, that of x^31 the lowest digit. -/
def cpoly : BitVec 32 := 0xEDB88320#32
def cmul (b : Bool) : BitVec 32 := if b then cpoly else 0#32
/-- One digit 0 is taken in. -/
def chalf (r : BitVec 32) : BitVec 32 := (r >>> 1) ^^^ cmul (r.getLsbD 0)
/-- A digit as a register's lowest one. -/
def cbit (b : Bool) : BitVec 32 := if b then 1#32 else 0#32
def cstep (r : BitVec 32) (b : Bool) : BitVec 32 := chalf (r ^^^ cbit b)
def creg (r : BitVec 32) (l : List Bool) : BitVec 32 := l.foldl cstep r
/-- The check of a row of digits. -/
def ccheck (l : List Bool) : BitVec 32 := ~~~ creg (BitVec.allOnes 32) l

theorem creg_append (r : BitVec 32) (l m : List Bool) : creg r (l ++ m) = creg (creg r l) m := by simp [creg]

theorem cmul_xor (a b : Bool) : cmul (a ^^ b) = cmul a ^^^ cmul b := by cases a <;> cases b <;> decide
theorem xor4 (a b c d : BitVec 32) : (a ^^^ b) ^^^ (c ^^^ d) = (a ^^^ c) ^^^ (b ^^^ d) := by
  apply BitVec.eq_of_getLsbD_eq
  intro i hi
  simp only [BitVec.getLsbD_xor]
  cases a.getLsbD i <;> cases b.getLsbD i <;> cases c.getLsbD i <;> cases d.getLsbD i <;> rfl
theorem shr_xor (a b : BitVec 32) : (a ^^^ b) >>> 1 = (a >>> 1) ^^^ (b >>> 1) := by
  apply BitVec.eq_of_getLsbD_eq
  intro i hi
  simp
theorem chalf_xor (a b : BitVec 32) : chalf (a ^^^ b) = chalf a ^^^ chalf b := by
  unfold chalf
  rw [BitVec.getLsbD_xor, cmul_xor, shr_xor, xor4]

theorem cbit_xor (a b : Bool) : cbit (a ^^ b) = cbit a ^^^ cbit b := by cases a <;> cases b <;> decide
theorem cstep_xor (r s : BitVec 32) (a b : Bool) : cstep (r ^^^ s) (a ^^ b) = cstep r a ^^^ cstep s b := by
  unfold cstep
  rw [cbit_xor, xor4, chalf_xor]

/-- THE CHECK IS LINEAR. -/
theorem creg_xor : ∀ (l m : List Bool) (r s : BitVec 32), l.length = m.length → creg (r ^^^ s) (List.zipWith (· ^^ ·) l m) = creg r l ^^^ creg s m := by
  intro l
  induction l with
  | nil => intro m r s h; cases m with
    | nil => rfl
    | cons b m => simp at h
  | cons a l ih =>
    intro m r s h
    cases m with
    | nil => simp at h
    | cons b m =>
      show creg (cstep (r ^^^ s) (a ^^ b)) (List.zipWith (· ^^ ·) l m) = creg (cstep r a) l ^^^ creg (cstep s b) m
      rw [cstep_xor]
      exact ih m _ _ (by simpa using h)

theorem chalf_zero {a : BitVec 32} (h : chalf a = 0#32) : a = 0#32 := by
  have h31 := congrArg (fun r => r.getLsbD 31) h
  have h0 : a.getLsbD 0 = false := by
    cases ha : a.getLsbD 0 with
    | false => rfl
    | true =>
      unfold chalf at h31
      rw [ha] at h31
      simp [cmul, cpoly] at h31
  unfold chalf at h
  rw [h0] at h
  apply BitVec.eq_of_getLsbD_eq
  intro i hi
  cases i with
  | zero => rw [h0]; simp
  | succ i =>
    have := congrArg (fun r => r.getLsbD i) h
    simp [cmul] at this
    rw [Nat.add_comm] at this
    rw [this]; simp

theorem creg_zeros_ne (k : Nat) : ∀ r : BitVec 32, r ≠ 0#32 → creg r (List.replicate k false) ≠ 0#32 := by
  induction k with
  | zero => intro r h; exact h
  | succ k ih =>
    intro r h
    rw [List.replicate_succ]
    show creg (cstep r false) _ ≠ _
    refine ih _ fun hz => h ?_
    unfold cstep cbit at hz
    exact chalf_zero (by simpa using hz)
theorem creg_zero_zeros (k : Nat) : creg 0#32 (List.replicate k false) = 0#32 := by
  induction k with
  | zero => rfl
  | succ k ih =>
    rw [List.replicate_succ]
    show creg (cstep 0#32 false) _ = _
    rw [show cstep 0#32 false = 0#32 by decide]
    exact ih

/-- Digits as a register, the first one the lowest. -/
def cpack : List Bool → BitVec 32
  | [] => 0#32
  | b :: l => cbit b ^^^ (cpack l <<< 1)
theorem cbit_get (b : Bool) (i : Nat) : (cbit b).getLsbD i = (b && decide (i = 0)) := by
  cases b
  · simp [cbit]
  · cases i with
    | zero => decide
    | succ i => simp [cbit, BitVec.getLsbD_one]
theorem cpack_get : ∀ (l : List Bool) (i : Nat), l.length ≤ 32 → (cpack l).getLsbD i = l.getD i false := by
  intro l
  induction l with
  | nil => intro i _; simp [cpack]
  | cons b l ih =>
    intro i h
    simp only [cpack, BitVec.getLsbD_xor, cbit_get, BitVec.getLsbD_shiftLeft]
    cases i with
    | zero => simp
    | succ i =>
      rw [List.getD_cons_succ]
      have := ih i (by simp at h; omega)
      simp only [Nat.add_sub_cancel, this]
      by_cases hi : i + 1 < 32
      · simp [hi]
      · have : l.getD i false = false := by
          rw [List.getD_eq_getElem?_getD, List.getElem?_eq_none (by simp at h; omega)]; rfl
        rw [this]; simp [hi]
theorem chalf_shl {x : BitVec 32} (h : x.getLsbD 31 = false) : chalf (x <<< 1) = x := by
  unfold chalf
  apply BitVec.eq_of_getLsbD_eq
  intro i hi
  have h0 : (x <<< 1).getLsbD 0 = false := by simp
  rw [h0, BitVec.getLsbD_xor, BitVec.getLsbD_ushiftRight, BitVec.getLsbD_shiftLeft, show (cmul false).getLsbD i = false by simp [cmul]]
  by_cases h1 : i = 31
  · subst h1; rw [h]; simp
  · have h2 : 1 + i < 32 := by omega
    simp only [h2, decide_true, Nat.add_sub_cancel_left, Bool.xor_false, Bool.true_and]
    simp

/-- A ROW OF AT MOST 32 DIGITS IS TAKEN IN AS SO MANY NOUGHTS BEHIND A REGISTER THAT IT WAS ADDED TO. -/
theorem creg_pack : ∀ (l : List Bool) (r : BitVec 32), l.length ≤ 32 → creg r l = creg (r ^^^ cpack l) (List.replicate l.length false) := by
  intro l
  induction l with
  | nil => intro r _; simp [creg, cpack]
  | cons b l ih =>
    intro r h
    have hl : l.length ≤ 31 := by simpa using h
    show creg (cstep r b) l = creg (cstep (r ^^^ (cbit b ^^^ (cpack l <<< 1))) false) (List.replicate l.length false)
    rw [ih (cstep r b) (by omega)]
    congr 1
    unfold cstep
    rw [show cbit false = 0#32 by rfl, BitVec.xor_zero, ← BitVec.xor_assoc, chalf_xor (r ^^^ cbit b) (cpack l <<< 1), chalf_shl]
    rw [cpack_get l 31 (by omega), List.getD_eq_getElem?_getD, List.getElem?_eq_none (by omega)]
    rfl
theorem cpack_ne {l : List Bool} (h : l.length ≤ 32) (ht : true ∈ l) : cpack l ≠ 0#32 := by
  intro hz
  obtain ⟨i, hi, he⟩ := List.mem_iff_getElem.1 ht
  have := cpack_get l i h
  rw [hz, List.getD_eq_getElem?_getD, List.getElem?_eq_getElem hi, he] at this
  simp at this

/-- A DIFFERENCE WITHIN 32 DIGITS SIDE BY SIDE IS NEVER LOST. -/
theorem creg_burst (p q : Nat) (d : List Bool) (h : d.length ≤ 32) (ht : true ∈ d) : creg 0#32 (List.replicate p false ++ d ++ List.replicate q false) ≠ 0#32 := by
  rw [creg_append, creg_append, creg_zero_zeros, creg_pack d 0#32 h, BitVec.zero_xor]
  exact creg_zeros_ne _ _ (creg_zeros_ne _ _ (cpack_ne h ht))
theorem ccheck_ne {l m d : List Bool} {p q : Nat} (hl : l.length = m.length) (hd : List.zipWith (· ^^ ·) l m = List.replicate p false ++ d ++ List.replicate q false) (h : d.length ≤ 32) (ht : true ∈ d) : ccheck l ≠ ccheck m := by
  intro he
  have hx := creg_xor l m (BitVec.allOnes 32) (BitVec.allOnes 32) hl
  rw [BitVec.xor_self, hd] at hx
  refine creg_burst p q d h ht (hx.trans ?_)
  have : creg (BitVec.allOnes 32) l = creg (BitVec.allOnes 32) m := by
    have := congrArg (~~~ ·) he
    simpa [ccheck] using this
  rw [this, BitVec.xor_self]

/-- OF THREE ROWS JOINED THE CHECK IS THAT OF THEIR CHECKS JOINED. -/
theorem ccheck_join (a b c : List Bool) (hb : a.length = b.length) (hc : a.length = c.length) :
    ccheck (List.zipWith (· ^^ ·) (List.zipWith (· ^^ ·) a b) c) = ccheck a ^^^ ccheck b ^^^ ccheck c := by
  have h1 := creg_xor a b (BitVec.allOnes 32) (BitVec.allOnes 32) hb
  have h2 := creg_xor (List.zipWith (· ^^ ·) a b) c (BitVec.allOnes 32 ^^^ BitVec.allOnes 32) (BitVec.allOnes 32) (by simp; omega)
  rw [h1, BitVec.xor_self, BitVec.zero_xor] at h2
  unfold ccheck
  rw [h2]
  apply BitVec.eq_of_getLsbD_eq
  intro i hi
  simp only [BitVec.getLsbD_not, BitVec.getLsbD_xor, hi, decide_true, Bool.true_and]
  cases (creg (BitVec.allOnes 32) a).getLsbD i <;> cases (creg (BitVec.allOnes 32) b).getLsbD i <;> cases (creg (BitVec.allOnes 32) c).getLsbD i <;> rfl

/-- The row of the division behind i of its steps. -/
def cdat (l : List Bool) (j : Nat) : Bool := l.getD j false
def crow (l : List Bool) (i j : Nat) : Bool :=
  if j < i then false else if j < i + 32 then (creg (BitVec.allOnes 32) (l.take i)).getLsbD (j - i) ^^ cdat l j else cdat l j
theorem crow_zero (l : List Bool) (j : Nat) : crow l 0 j = if j < 32 then !cdat l j else cdat l j := by
  unfold crow
  rw [if_neg (by omega), Nat.zero_add, Nat.sub_zero, List.take_zero]
  by_cases h : j < 32
  · rw [if_pos h, if_pos h]
    have : (creg (BitVec.allOnes 32) []).getLsbD j = true := by
      show (BitVec.allOnes 32).getLsbD j = true
      rw [BitVec.getLsbD_allOnes]; simpa using h
    rw [this]
    simp
  · rw [if_neg h, if_neg h]
theorem crow_step (l : List Bool) (i j : Nat) (hi : i < l.length) :
    crow l (i + 1) j = if j = i then false else if i < j ∧ j ≤ i + 32 then crow l i j ^^ (crow l i i && cpoly.getLsbD (j - i - 1)) else crow l i j := by
  have htk : l.take (i + 1) = l.take i ++ [cdat l i] := by
    rw [List.take_succ_eq_append_getElem hi]; unfold cdat; rw [List.getD_eq_getElem?_getD, List.getElem?_eq_getElem hi]; rfl
  have hr : creg (BitVec.allOnes 32) (l.take (i + 1)) = cstep (creg (BitVec.allOnes 32) (l.take i)) (cdat l i) := by rw [htk, creg_append]; rfl
  have hii : crow l i i = ((creg (BitVec.allOnes 32) (l.take i)).getLsbD 0 ^^ cdat l i) := by unfold crow; simp
  generalize hR : creg (BitVec.allOnes 32) (l.take i) = R at *
  by_cases h1 : j = i
  · subst h1; unfold crow; simp
  · rw [if_neg h1]
    by_cases h2 : i < j ∧ j ≤ i + 32
    · rw [if_pos h2]
      have e1 : crow l (i + 1) j = ((cstep R (cdat l i)).getLsbD (j - i - 1) ^^ cdat l j) := by
        unfold crow; rw [if_neg (by omega), if_pos (by omega), hr, show j - (i + 1) = j - i - 1 by omega]
      rw [e1, hii]
      have hs : (cstep R (cdat l i)).getLsbD (j - i - 1) = (R.getLsbD (j - i) ^^ ((R.getLsbD 0 ^^ cdat l i) && cpoly.getLsbD (j - i - 1))) := by
        unfold cstep chalf
        rw [BitVec.getLsbD_xor, BitVec.getLsbD_ushiftRight, BitVec.getLsbD_xor, BitVec.getLsbD_xor, cbit_get, cbit_get, show 1 + (j - i - 1) = j - i by omega]
        have hne : decide (j - i = 0) = false := by simp; omega
        rw [hne]
        cases R.getLsbD 0 <;> cases cdat l i <;> simp [cmul]
      rw [hs]
      unfold crow
      rw [if_neg (by omega)]
      by_cases h3 : j < i + 32
      · rw [if_pos h3, hR]
        cases R.getLsbD (j - i) <;> cases cdat l j <;> cases R.getLsbD 0 <;> cases cdat l i <;> cases cpoly.getLsbD (j - i - 1) <;> rfl
      · rw [if_neg h3, show j - i = 32 by omega]
        have : R.getLsbD 32 = false := by simp
        rw [this]
        cases cdat l j <;> cases R.getLsbD 0 <;> cases cdat l i <;> cases cpoly.getLsbD (32 - 1) <;> rfl
    · rw [if_neg h2]
      unfold crow
      by_cases h4 : j < i
      · rw [if_pos (by omega), if_pos h4]
      · rw [if_neg (by omega), if_neg (by omega), if_neg (by omega), if_neg (by omega)]
/-- The last 32 digits of the division, turned about, are the check's. -/
theorem crow_end (l : List Bool) (k : Nat) (hk : k < 32) : (!crow l l.length (l.length + k)) = (ccheck l).getLsbD k := by
  unfold crow ccheck
  rw [if_neg (by omega), if_pos (by omega), Nat.add_sub_cancel_left, List.take_length, BitVec.getLsbD_not]
  have : cdat l (l.length + k) = false := by unfold cdat; rw [List.getD_eq_getElem?_getD, List.getElem?_eq_none (by omega)]; rfl
  rw [this]
  simp [hk]

end Go.Proofs.YtedglcbeheeonaaDoor
