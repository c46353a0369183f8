/-
  What Get answers to bytes that were put.
-/
import Derived.Test.YtiijdacnfhiagaaGreatDoorRget
import Derived.Test.YtiijdacnfhiagaaGreatDoorCut
namespace Go.Proofs.YtiijdacnfhiagaaGreatDoor
open Go Go.RowKit
set_option linter.unusedVariables false

theorem enc_more (v : Nat) : ∀ j, j + 1 < (enc v).length → 128 ≤ (enc v).getD j 0 := by
  induction v using Nat.strongRecOn with
  | ind v ih =>
    intro j hj
    by_cases h : v < 128
    · rw [enc_lt h] at hj; simp at hj
    · rw [enc_ge (by omega)] at hj ⊢
      cases j with
      | zero => simp; 
      | succ j => rw [List.getD_cons_succ]; exact ih (v / 128) (by omega) j (by simpa using hj)
theorem enc_end (v : Nat) : ∀ j, j + 1 = (enc v).length → (enc v).getD j 0 < 128 := by
  induction v using Nat.strongRecOn with
  | ind v ih =>
    intro j hj
    by_cases h : v < 128
    · rw [enc_lt h] at hj ⊢; simp at hj; subst hj; simpa using h
    · rw [enc_ge (by omega)] at hj ⊢
      cases j with
      | zero => have := enc_pos (v / 128); simp at hj; rw [hj] at this; simp at this
      | succ j => rw [List.getD_cons_succ]; exact ih (v / 128) (by omega) j (by simpa using hj)

theorem got_enc (v : Nat) (r : List Nat) (hv : v < 18446744073709551616) (hr : ∀ x ∈ r, x < 256) : got (enc v ++ r) = .num v (enc v).length := by
  have hp := enc_pos v
  have ht := enc_ten hv
  obtain ⟨k, hk⟩ : ∃ k, (enc v).length = k + 1 := ⟨(enc v).length - 1, by omega⟩
  have hg : ∀ j, j ≤ k → (enc v ++ r).getD j 0 = (enc v).getD j 0 := by
    intro j hj
    simp only [List.getD_eq_getElem?_getD]
    rw [List.getElem?_append_left (by omega)]
  have hM : AllMore (enc v ++ r) k := fun j hj => by rw [hg j (by omega)]; exact enc_more v j (by omega)
  have htk : (enc v ++ r).take (k + 1) = enc v := by rw [← hk, List.take_left]
  have := got_by (r := enc v ++ r) (k := k) (by
      intro x hx; rcases List.mem_append.1 hx with h | h
      · exact enc_byte v x h
      · exact hr x h) hM (by omega) (by rw [List.length_append]; omega) (by rw [hg k (by omega)]; exact enc_end v k (by omega)) v (by rw [htk, val_enc, Nat.mod_eq_of_lt hv])
  rw [this, htk, if_pos rfl, hk]

theorem getS_put (a b : List Nat) (v : Nat) (hv : v < 18446744073709551616) (hb : ∀ x ∈ b, x < 256) : getS (a ++ enc v ++ b) (a.length : Nat) = (v, a.length + (enc v).length, 0) := by
  unfold getS
  rw [if_neg (by simp; omega), Int.toNat_natCast, List.append_assoc, List.drop_left, got_enc v b hv hb]
  rfl

/-- What is got is put as it stood. -/
theorem got_put {r : List Nat} {v k : Nat} (hb : ∀ x ∈ r, x < 256) (h : got r = .num v k) : k ≤ r.length ∧ enc v = r.take k ∧ v < 18446744073709551616 := by
  -- the first byte below 128
  have find : ∀ m, m ≤ 10 → m ≤ r.length → AllMore r m ∨ ∃ k, k < m ∧ AllMore r k ∧ r.getD k 0 < 128 := by
    intro m
    induction m with
    | zero => intro _ _; exact .inl (AllMore.zero r)
    | succ m ih =>
      intro h1 h2
      rcases ih (by omega) (by omega) with h | ⟨k, hk, hM, hc⟩
      · by_cases hc : 128 ≤ r.getD m 0
        · exact .inl (h.succ hc)
        · exact .inr ⟨m, by omega, h, by omega⟩
      · exact .inr ⟨k, by omega, hM, hc⟩
  by_cases h10 : 10 ≤ r.length
  · rcases find 10 (by omega) h10 with hM | ⟨j, hj, hM, hc⟩
    · rw [got_ten hM h10] at h; cases h
    · have G := got_by hb hM hj (by omega) hc _ rfl
      rw [G] at h
      split at h
      · rename_i he
        injection h with h1 h2
        subst h1 h2
        exact ⟨by omega, he, Nat.mod_lt _ (by decide)⟩
      · cases h
  · rcases find r.length (by omega) (Nat.le_refl _) with hM | ⟨j, hj, hM, hc⟩
    · rw [got_short hM (by omega) rfl] at h; cases h
    · have G := got_by hb hM (by omega) (by omega) hc _ rfl
      rw [G] at h
      split at h
      · rename_i he
        injection h with h1 h2
        subst h1 h2
        exact ⟨by omega, he, Nat.mod_lt _ (by decide)⟩
      · cases h

/-- Of an answer: either an error, or the number's bytes stand there. -/
theorem getS_zero {l : List Nat} {x y z : Nat} (hb : ∀ x ∈ l, x < 256) (h : getS l 0 = (x, y, z)) : z ≠ 0 ∨ (z = 0 ∧ y ≤ l.length ∧ enc x = l.take y ∧ x < 18446744073709551616) := by
  unfold getS at h
  rw [if_neg (by omega)] at h
  cases hg : got (l.drop (0 : Int).toNat) with
  | num v k =>
    rw [hg] at h
    simp only [ans, Prod.mk.injEq] at h
    obtain ⟨rfl, rfl, rfl⟩ := h
    have := got_put (by simpa using hb) hg
    simp at this ⊢
    exact this
  | err e =>
    rw [hg] at h
    simp only [ans, Prod.mk.injEq] at h
    obtain ⟨rfl, rfl, rfl⟩ := h
    left
    intro h0
    subst h0
    have key : ∀ k i v (r : List Nat), scan k i v r ≠ .err 0 := by
      intro k
      induction k with
      | zero => intro i v r hh; simp [scan] at hh
      | succ k ih =>
        intro i v r hh
        cases r with
        | nil => simp [scan] at hh
        | cons c r =>
          simp only [scan] at hh
          split at hh
          · exact ih _ _ _ hh
          · split at hh <;> simp at hh
    exact key _ _ _ _ hg

end Go.Proofs.YtiijdacnfhiagaaGreatDoor
