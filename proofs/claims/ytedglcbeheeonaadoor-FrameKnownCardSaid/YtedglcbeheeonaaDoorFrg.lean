/-
  What stands in bytes from a place on: a frame, or the rule that is offended.
-/
import Derived.Test.YtedglcbeheeonaaDoorSl
import Derived.Test.YtedglcbeheeonaaDoorFra
namespace Go.Proofs.YtedglcbeheeonaaDoor
open Go Go.RowKit

theorem scan_err : ∀ (k i v : Nat) (r : List Nat) (e : Nat), scan k i v r = .err e → e = 4 ∨ e = 10 := by
  intro k
  induction k with
  | zero => intro i v r e hh; simp [scan] at hh; omega
  | succ k ih =>
    intro i v r e hh
    cases r with
    | nil => simp [scan] at hh; omega
    | cons c r =>
      simp only [scan] at hh
      split at hh
      · exact ih _ _ _ _ hh
      · split at hh
        · cases hh
        · simp at hh; omega

/-- A number that is got stands there; else it is one of two errors. -/
theorem getS_form {l : List Nat} {a x y z : Nat} (hb : ∀ x ∈ l, x < 256) (ha : a ≤ l.length) (h : getS l (a : Int) = (x, y, z)) :
    (z = 0 ∧ a + 1 ≤ y ∧ y ≤ l.length ∧ enc x = (l.drop a).take (y - a) ∧ x < 18446744073709551616) ∨ ((z = 4 ∨ z = 10) ∧ x = 0 ∧ y = 0) := by
  unfold getS at h
  rw [if_neg (by omega), Int.toNat_natCast] at h
  cases hg : got (l.drop a) with
  | num v k =>
    rw [hg] at h
    simp only [ans, Prod.mk.injEq] at h
    obtain ⟨rfl, rfl, rfl⟩ := h
    obtain ⟨h1, h2, h3⟩ := got_put (fun x hx => hb x (List.mem_of_mem_drop hx)) hg
    rw [List.length_drop] at h1
    have hp := enc_pos v
    rw [h2, List.length_take, List.length_drop] at hp
    exact .inl ⟨rfl, by omega, by omega, by rw [h2]; congr 1; omega, h3⟩
  | err e =>
    rw [hg] at h
    simp only [ans, Prod.mk.injEq] at h
    obtain ⟨rfl, rfl, rfl⟩ := h
    exact .inr ⟨scan_err _ _ _ _ _ hg, rfl, rfl⟩

/-- What stands there. -/
inductive FG where
  | bad (r : Nat)
  | good (k : Nat) (p : List Nat) (nx : Nat)

def frN (l : List Nat) (a : Nat) : FG :=
  if (getS l ((a + 1 : Nat) : Int)).2.2 = 10 then .bad 2
  else if (getS l ((a + 1 : Nat) : Int)).2.2 ≠ 0 ∨ l.length < (getS l ((a + 1 : Nat) : Int)).2.1 + 4 + (getS l ((a + 1 : Nat) : Int)).1 then .bad 1
  else if eqB ((l.drop ((getS l ((a + 1 : Nat) : Int)).2.1 + (getS l ((a + 1 : Nat) : Int)).1)).take 4) (le4 (crcN (frB (l.getD a 0) ((l.drop (getS l ((a + 1 : Nat) : Int)).2.1).take (getS l ((a + 1 : Nat) : Int)).1)))) = true then
    .good (l.getD a 0) ((l.drop (getS l ((a + 1 : Nat) : Int)).2.1).take (getS l ((a + 1 : Nat) : Int)).1) ((getS l ((a + 1 : Nat) : Int)).2.1 + (getS l ((a + 1 : Nat) : Int)).1 + 4)
  else .bad 3
/-- P3.2: what Get answers. -/
def frG (l : List Nat) (a : Int) : FG := if a < 0 ∨ (l.length : Int) ≤ a then .bad 1 else frN l a.toNat

theorem frG_out {l : List Nat} {a : Int} (h : a < 0 ∨ (l.length : Int) ≤ a) : frG l a = .bad 1 := by unfold frG; rw [if_pos h]
theorem frG_in {l : List Nat} {a : Nat} (h : a < l.length) : frG l (a : Int) = frN l a := by unfold frG; rw [if_neg (by omega), Int.toNat_natCast]
section
variable {l : List Nat} {a x y z : Nat}
theorem frN_len (h : getS l ((a + 1 : Nat) : Int) = (x, y, 10)) : frN l a = .bad 2 := by unfold frN; rw [h, if_pos rfl]
theorem frN_short (h : getS l ((a + 1 : Nat) : Int) = (x, y, z)) (h1 : z ≠ 10) (h2 : z ≠ 0 ∨ l.length < y + 4 + x) : frN l a = .bad 1 := by unfold frN; rw [h, if_neg h1, if_pos h2]
theorem frN_bad (h : getS l ((a + 1 : Nat) : Int) = (x, y, 0)) (h2 : y + 4 + x ≤ l.length) (h3 : eqB ((l.drop (y + x)).take 4) (le4 (crcN (frB (l.getD a 0) ((l.drop y).take x)))) = false) : frN l a = .bad 3 := by
  unfold frN; rw [h, if_neg (by simp), if_neg (by simp; omega)]; simp only; rw [h3]; rfl
theorem frN_good (h : getS l ((a + 1 : Nat) : Int) = (x, y, 0)) (h2 : y + 4 + x ≤ l.length) (h3 : eqB ((l.drop (y + x)).take 4) (le4 (crcN (frB (l.getD a 0) ((l.drop y).take x)))) = true) : frN l a = .good (l.getD a 0) ((l.drop y).take x) (y + x + 4) := by
  unfold frN; rw [h, if_neg (by simp), if_neg (by simp; omega)]; simp only; rw [h3]; rfl
end

/-- The bytes ahead of the check are those of the frame. -/
theorem fr_head {l : List Nat} {a x y : Nat} (hb : ∀ x ∈ l, x < 256) (ha : a < l.length) (h : getS l ((a + 1 : Nat) : Int) = (x, y, 0)) (h2 : y + 4 + x ≤ l.length) :
    (l.drop a).take (y + x - a) = frB (l.getD a 0) ((l.drop y).take x) ∧ a + 2 ≤ y ∧ ((l.drop y).take x).length = x ∧ x < 18446744073709551616 := by
  rcases getS_form hb (by omega) h with ⟨_, h3, h4, h5, h6⟩ | ⟨h3, _⟩
  · have hlen : ((l.drop y).take x).length = x := by rw [List.length_take, List.length_drop]; omega
    refine ⟨?_, by omega, hlen, h6⟩
    unfold frB
    rw [hlen, h5]
    have e1 : l.drop a = l.getD a 0 :: l.drop (a + 1) := by
      rw [List.getD_eq_getElem?_getD, List.getElem?_eq_getElem ha]
      exact List.drop_eq_getElem_cons ha
    have e2 : l.drop y = (l.drop (a + 1)).drop (y - (a + 1)) := by rw [List.drop_drop]; congr 1; omega
    rw [e1, e2, show y + x - a = (y - (a + 1) + x) + 1 by omega, List.take_succ_cons, List.take_add]
  · omega

/-- The frame's bytes, and behind them what stands in the place of its check. -/
theorem fr_all {l : List Nat} {a x y : Nat} (hb : ∀ x ∈ l, x < 256) (ha : a < l.length) (h : getS l ((a + 1 : Nat) : Int) = (x, y, 0)) (h2 : y + 4 + x ≤ l.length) :
    (l.drop a).take (y + x + 4 - a) = frB (l.getD a 0) ((l.drop y).take x) ++ (l.drop (y + x)).take 4 := by
  obtain ⟨h3, h4, _⟩ := fr_head hb ha h h2
  rw [← h3, show y + x + 4 - a = (y + x - a) + 4 by omega, List.take_add, List.drop_drop, show a + (y + x - a) = y + x by omega]

/-- What was got stands there. -/
theorem frN_stands {l : List Nat} {a k nx : Nat} {p : List Nat} (hb : ∀ x ∈ l, x < 256) (ha : a < l.length) (h : frN l a = .good k p nx) :
    nx = a + (frS k p).length ∧ nx ≤ l.length ∧ (l.drop a).take (nx - a) = frS k p ∧ k < 256 ∧ (∀ x ∈ p, x < 256) := by
  obtain ⟨⟨x, y, z⟩, hx⟩ : ∃ q, getS l ((a + 1 : Nat) : Int) = q := ⟨_, rfl⟩
  by_cases hz : z = 10
  · subst hz; rw [frN_len hx] at h; cases h
  by_cases h2 : z ≠ 0 ∨ l.length < y + 4 + x
  · rw [frN_short hx hz h2] at h; cases h
  obtain rfl : z = 0 := by omega
  have h2' : y + 4 + x ≤ l.length := by omega
  cases he : eqB ((l.drop (y + x)).take 4) (le4 (crcN (frB (l.getD a 0) ((l.drop y).take x)))) with
  | false => rw [frN_bad hx h2' he] at h; cases h
  | true =>
    rw [frN_good hx h2' he] at h
    injection h with h3 h4 h5
    have hA := fr_all hb ha hx h2'
    obtain ⟨_, hy, hlen, _⟩ := fr_head hb ha hx h2'
    have he' : (l.drop (y + x)).take 4 = le4 (crcN (frB (l.getD a 0) ((l.drop y).take x))) := by unfold eqB at he; simpa using he
    rw [he', h3, h4, h5] at hA
    have hk : k < 256 := by
      rw [← h3, List.getD_eq_getElem?_getD, List.getElem?_eq_getElem ha]
      exact hb _ (List.getElem_mem ha)
    refine ⟨?_, by omega, hA, hk, fun u hu => ?_⟩
    · have := congrArg List.length hA
      rw [List.length_take, List.length_drop] at this
      change min (nx - a) (l.length - a) = (frS k p).length at this
      omega
    · rw [← h4] at hu
      exact hb u (List.mem_of_mem_drop (List.mem_of_mem_take hu))

/-- What stands there is got. -/
theorem frN_of {l : List Nat} {a k : Nat} {p r : List Nat} (hb : ∀ x ∈ l, x < 256) (hp : (p.length : Int) < 18446744073709551616) (h : l.drop a = frS k p ++ r) (ha : a ≤ l.length) : frN l a = .good k p (a + (frS k p).length) := by
  have e0 : l.drop a = k :: (enc p.length ++ p ++ le4 (crcN (frB k p)) ++ r) := by rw [h]; simp [frS, frB]
  have hl := congrArg List.length h
  rw [List.length_drop, List.length_append, frS_length] at hl
  have hal : a < l.length := by omega
  have e1 : l.getD a 0 = k := by
    have := List.drop_eq_getElem_cons hal
    rw [e0] at this
    injection this with h1 _
    rw [List.getD_eq_getElem?_getD, List.getElem?_eq_getElem hal, h1]; rfl
  have e2 : l.drop (a + 1) = enc p.length ++ (p ++ (le4 (crcN (frB k p)) ++ r)) := by
    have := List.drop_eq_getElem_cons hal
    rw [e0] at this
    injection this with _ h1
    rw [← h1]; simp
  have hg : getS l ((a + 1 : Nat) : Int) = (p.length, a + 1 + (enc p.length).length, 0) := by
    unfold getS
    rw [if_neg (by omega), Int.toNat_natCast, e2, got_enc _ _ (by omega)]
    · rfl
    · intro x hx
      refine hb x (List.mem_of_mem_drop (i := a + 1) ?_)
      rw [e2]
      exact List.mem_append_right _ hx
  have e3 : l.drop (a + 1 + (enc p.length).length) = p ++ (le4 (crcN (frB k p)) ++ r) := by
    rw [← List.drop_drop, e2, List.drop_left]
  have e4 : (l.drop (a + 1 + (enc p.length).length)).take p.length = p := by rw [e3, List.take_left]
  have e5 : l.drop (a + 1 + (enc p.length).length + p.length) = le4 (crcN (frB k p)) ++ r := by
    rw [← List.drop_drop, e3, List.drop_left]
  have := frN_good hg (by omega) (by rw [e5, e1, e4, List.take_left' (le4_length _)]; exact eqB_self _)
  rw [this, e1, e4, frS_length]
  congr 1
  omega

end Go.Proofs.YtedglcbeheeonaaDoor
