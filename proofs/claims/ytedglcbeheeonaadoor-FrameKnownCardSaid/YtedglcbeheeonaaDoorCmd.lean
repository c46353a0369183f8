/-
  Plain facts on the document's division: what each of its steps leaves of the row, and the number that is read off at last. No program is named here.
-/
import Derived.Test.YtedglcbeheeonaaDoorCmb
namespace Go.Proofs.YtedglcbeheeonaaDoor
set_option linter.unusedSimpArgs false

/-- The polynomial's powers, but the highest one. -/
def pows : List Nat := [26, 23, 22, 16, 12, 11, 10, 8, 7, 5, 4, 2, 1, 0]
def hitL (ps : List Nat) (i j : Nat) : Bool := ps.foldl (fun b p => b ^^ decide (j + p = i + 32)) false
theorem hitL_snoc (ps : List Nat) (p i j : Nat) : hitL (ps ++ [p]) i j = (hitL ps i j ^^ decide (j + p = i + 32)) := by simp [hitL]
theorem hitL_none : ∀ (ps : List Nat) (b : Bool) (i j : Nat), (∀ p ∈ ps, ¬ j + p = i + 32) → ps.foldl (fun b p => b ^^ decide (j + p = i + 32)) b = b
  | [], _, _, _, _ => rfl
  | p :: ps, b, i, j, h => by
    rw [List.foldl_cons, decide_eq_false (h p (by simp)), Bool.xor_false]
    exact hitL_none ps b i j fun q hq => h q (by simp [hq])
theorem hit_small : ∀ d : Fin 33, 1 ≤ d.1 → pows.foldl (fun b p => b ^^ decide (d.1 + p = 32)) false = cpoly.getLsbD (d.1 - 1) := by decide +kernel
theorem hitL_all (i j : Nat) : hitL pows i j = if i < j ∧ j ≤ i + 32 then cpoly.getLsbD (j - i - 1) else false := by
  by_cases h : i < j ∧ j ≤ i + 32
  · rw [if_pos h]
    have e : hitL pows i j = pows.foldl (fun b p => b ^^ decide ((j - i) + p = 32)) false := by
      unfold hitL
      congr 1
      funext b p
      congr 1
      rw [decide_eq_decide]
      omega
    rw [e]
    exact hit_small ⟨j - i, by omega⟩ (by show 1 ≤ j - i; omega)
  · rw [if_neg h]
    refine hitL_none pows false i j fun p hp e => h ?_
    have hp2 : p ≤ 26 := by
      have : ∀ p ∈ pows, p ≤ 26 := by decide
      exact this p hp
    omega

/-- The row m has N digits, and they are f's. -/
def RowIs (m : List Bool) (N : Nat) (f : Nat → Bool) : Prop := m.length = N ∧ ∀ j, j < N → m.getD j false = f j
theorem RowIs.congr {m : List Bool} {N : Nat} {f g : Nat → Bool} (h : RowIs m N f) (e : ∀ j, j < N → f j = g j) : RowIs m N g := ⟨h.1, fun j hj => (h.2 j hj).trans (e j hj)⟩
theorem getD_setB (m : List Bool) (k j : Nat) (x : Bool) (hk : k < m.length) : (m.set k x).getD j false = if j = k then x else m.getD j false := by
  simp only [List.getD_eq_getElem?_getD, List.getElem?_set]
  by_cases h : k = j
  · subst h; simp [hk]
  · have : ¬ j = k := fun e => h e.symm
    simp [h, this]
theorem RowIs.set {m : List Bool} {N : Nat} {f : Nat → Bool} (h : RowIs m N f) {k : Nat} (hk : k < N) (x : Bool) : RowIs (m.set k x) N (fun j => if j = k then x else f j) :=
  ⟨by rw [List.length_set]; exact h.1, fun j hj => by
    rw [getD_setB m k j x (by rw [h.1]; exact hk)]
    show _ = if j = k then x else f j
    by_cases e : j = k
    · rw [if_pos e, if_pos e]
    · rw [if_neg e, if_neg e]; exact h.2 j hj⟩

theorem row_start (D : List Bool) : RowIs (D ++ List.replicate 32 false) (D.length + 32) (fun j => cdat D j) :=
  ⟨by simp, fun j hj => by
    unfold cdat
    simp only [List.getD_eq_getElem?_getD]
    by_cases h : j < D.length
    · rw [List.getElem?_append_left h]
    · rw [List.getElem?_append_right (by omega), List.getElem?_eq_none (show D.length ≤ j by omega), List.getElem?_replicate, if_pos (by omega)]; rfl⟩
/-- Behind k of the first turns. -/
def turned (D : List Bool) (k j : Nat) : Bool := if j < k then !cdat D j else cdat D j
theorem turned_zero (D : List Bool) : turned D 0 = fun j => cdat D j := by funext j; simp [turned]
theorem turned_step {D : List Bool} {m : List Bool} {N k : Nat} (h : RowIs m N (turned D k)) (hk : k < N) : RowIs (m.set k (!m.getD k false)) N (turned D (k + 1)) :=
  (h.set hk _).congr fun j hj => by
    by_cases e : j = k
    · subst e
      rw [if_pos rfl, h.2 j hj]
      unfold turned
      rw [if_neg (by omega), if_pos (by omega)]
    · rw [if_neg e]
      unfold turned
      by_cases h1 : j < k
      · rw [if_pos h1, if_pos (by omega)]
      · rw [if_neg h1, if_neg (by omega)]
theorem turned_end {D : List Bool} {m : List Bool} {N : Nat} (h : RowIs m N (turned D 32)) : RowIs m N (crow D 0) :=
  h.congr fun j _ => by rw [crow_zero]; rfl

/-- Behind a step of the division at which the digit was 0. -/
theorem crow_keep {D : List Bool} {m : List Bool} {N i : Nat} (h : RowIs m N (crow D i)) (hi : i < D.length) (hN : i < N) (h0 : m.getD i false = false) : RowIs m N (crow D (i + 1)) :=
  h.congr fun j hj => by
    have e : crow D i i = false := by rw [← h.2 i hN]; exact h0
    rw [crow_step D i j hi, e]
    by_cases h1 : j = i
    · subst h1; rw [if_pos rfl, e]
    · rw [if_neg h1]
      split <;> simp
/-- In the middle of one at which it was 1: behind those of the powers ps. -/
def midrow (D : List Bool) (i : Nat) (ps : List Nat) (j : Nat) : Bool := if j = i then hitL ps i j else crow D i j ^^ hitL ps i j
theorem midrow_start {D : List Bool} {m : List Bool} {N i : Nat} (h : RowIs m N (crow D i)) (hi : i < N) : RowIs (m.set i false) N (midrow D i []) :=
  (h.set hi false).congr fun j _ => by
    unfold midrow hitL
    by_cases e : j = i
    · rw [if_pos e, if_pos e]; rfl
    · rw [if_neg e, if_neg e]; simp
theorem midrow_step {D : List Bool} {m : List Bool} {N i p : Nat} {ps : List Nat} (h : RowIs m N (midrow D i ps)) (hp : p ≤ 32) (hN : i + 32 < N + p) : RowIs (m.set (i + 32 - p) (!m.getD (i + 32 - p) false)) N (midrow D i (ps ++ [p])) :=
  (h.set (by omega) _).congr fun j hj => by
    by_cases e : j = i + 32 - p
    · subst e
      rw [if_pos rfl, h.2 _ hj]
      unfold midrow
      rw [hitL_snoc, decide_eq_true (show i + 32 - p + p = i + 32 by omega)]
      by_cases e2 : i + 32 - p = i
      · rw [if_pos e2, if_pos e2]; simp
      · rw [if_neg e2, if_neg e2]; simp
    · rw [if_neg e]
      unfold midrow
      rw [hitL_snoc, decide_eq_false (show ¬ j + p = i + 32 by omega)]
      simp
theorem midrow_end {D : List Bool} {m : List Bool} {N i : Nat} (h : RowIs m N (midrow D i pows)) (hi : i < D.length) (h1 : crow D i i = true) : RowIs m N (crow D (i + 1)) :=
  h.congr fun j _ => by
    rw [crow_step D i j hi, h1]
    unfold midrow
    rw [hitL_all]
    by_cases e : j = i
    · subst e; rw [if_pos rfl, if_pos rfl, if_neg (by omega)]
    · rw [if_neg e, if_neg e]
      by_cases h2 : i < j ∧ j ≤ i + 32
      · rw [if_pos h2, if_pos h2]; simp
      · rw [if_neg h2, if_neg h2]; simp
theorem pows_next {t : Nat} (h : t < 14) : pows.take (t + 1) = pows.take t ++ [pows.getD t 0] := by
  rw [List.take_succ_eq_append_getElem (show t < pows.length from h), List.getD_eq_getElem?_getD, List.getElem?_eq_getElem (show t < pows.length from h)]; rfl
theorem pows_le (t : Nat) : pows.getD t 0 ≤ 26 := by
  by_cases h : t < 14
  · have : ∀ t : Fin 14, pows.getD t.1 0 ≤ 26 := by decide
    exact this ⟨t, h⟩
  · rw [List.getD_eq_getElem?_getD, List.getElem?_eq_none (show pows.length ≤ t by simpa [pows] using h)]; decide

/-- What is read off the row at last. -/
theorem row_bit {l : List Nat} (hl : ∀ x ∈ l, x < 256) {m : List Bool} (h : RowIs m (8 * l.length + 32) (crow (digits l) (8 * l.length))) {k : Nat} (hk : k < 32) : (!m.getD (8 * l.length + k) false) = (crcN l).testBit k := by
  rw [h.2 _ (by omega), crcN_eq l hl, ← digits_length l, crow_end _ _ hk]
  rfl
theorem bit_next (v k : Nat) : v / 2 ^ k = v / 2 ^ (k + 1) * 2 + (if v.testBit k = true then 1 else 0) := by
  rw [Nat.testBit_eq_decide_div_mod_eq, Nat.pow_succ, ← Nat.div_div_eq_div_mul]
  simp only [decide_eq_true_eq]
  split <;> omega

end Go.Proofs.YtedglcbeheeonaaDoor
