/-
  A slice of a slice, as the walk meets it: the new slice reads as the part; and what Get answers to bytes that were put.
-/
import Derived.Test.YtmnaajdgogehhaaRget
namespace Go.Proofs.Ytmnaajdgogehhaa
open Go Go.RowKit
set_option linter.unusedVariables false

theorem size_byte (wx : World) : ((sizeOf 5).run Try.prog wx) = .ok 1 wx := by
  obtain ⟨i0, hi, hz0, hz1, hz2⟩ := info_parts Try.info5
  simp [sizeOf, typeInfo, hi, hz1]
theorem elem_bytes : Try.prog.elem 23 = 5 := by kernel_rfl

/-- b[:k] -/
theorem slice_hi {w : World} {B n c k : Nat} {A : Option Addr} {xs : List Value} (h : Rd w B 1 A n xs) (hk : k ≤ n) (hn : n ≤ c) :
    ∃ A2, (∀ wx, (Instr.slice 23 (.slice A n c) none (some (.int .i64 (k : Int))) none).run Try.prog wx = .ok (.slice A2 k c) wx) ∧ Rd w B 1 A2 k (xs.take k) := by
  have r := (h.take hk).cut (cap := c) (k := 0) (Nat.zero_le _) (by omega)
  simp only [List.drop_zero, Nat.sub_zero, Nat.mul_one] at r
  refine ⟨_, ?_, r⟩
  intro wx
  rw [run_slice_h wx 23 A n c (by rw [elem_bytes]; exact Try.underlying23) .i64 k (by omega) (by omega), elem_bytes, size_byte]
  simp [sliced, Result.andThen]

/-- b[j:k] -/
theorem slice_lh {w : World} {B n c j k : Nat} {A : Option Addr} {xs : List Value} (h : Rd w B 1 A n xs) (hj : j ≤ k) (hk : k ≤ n) (hn : n ≤ c) :
    ∃ A2, (∀ wx, (Instr.slice 23 (.slice A n c) (some (.int .i64 (j : Int))) (some (.int .i64 (k : Int))) none).run Try.prog wx = .ok (.slice A2 (k - j) (c - j)) wx) ∧ Rd w B 1 A2 (k - j) ((xs.take k).drop j) := by
  have r := (h.take hk).cut (cap := c) (k := j) hj (by omega)
  simp only [Nat.mul_one] at r
  refine ⟨_, ?_, r⟩
  intro wx
  rw [run_slice_lh wx 23 A n c (by rw [elem_bytes]; exact Try.underlying23) .i64 .i64 j k (by omega) (by omega) (by omega), elem_bytes, size_byte]
  simp [sliced, Result.andThen]

theorem enc_more (v : Nat) : ∀ j, j + 1 < (enc v).length → 128 ≤ (enc v).getD j 0 := by
  induction v using Nat.strongRecOn with
  | ind v ih =>
    intro j hj
    by_cases h : v < 128
    · rw [enc_lt h] at hj; simp at hj
    · rw [enc_ge (by omega)] at hj ⊢
      cases j with
      | zero => simp; 
      | succ j => rw [List.getD_cons_succ]; exact ih (v / 128) (by omega) j (by simpa using hj)
theorem enc_end (v : Nat) : ∀ j, j + 1 = (enc v).length → (enc v).getD j 0 < 128 := by
  induction v using Nat.strongRecOn with
  | ind v ih =>
    intro j hj
    by_cases h : v < 128
    · rw [enc_lt h] at hj ⊢; simp at hj; subst hj; simpa using h
    · rw [enc_ge (by omega)] at hj ⊢
      cases j with
      | zero => have := enc_pos (v / 128); simp at hj; rw [hj] at this; simp at this
      | succ j => rw [List.getD_cons_succ]; exact ih (v / 128) (by omega) j (by simpa using hj)

theorem got_enc (v : Nat) (r : List Nat) (hv : v < 18446744073709551616) (hr : ∀ x ∈ r, x < 256) : got (enc v ++ r) = .num v (enc v).length := by
  have hp := enc_pos v
  have ht := enc_ten hv
  obtain ⟨k, hk⟩ : ∃ k, (enc v).length = k + 1 := ⟨(enc v).length - 1, by omega⟩
  have hg : ∀ j, j ≤ k → (enc v ++ r).getD j 0 = (enc v).getD j 0 := by
    intro j hj
    simp only [List.getD_eq_getElem?_getD]
    rw [List.getElem?_append_left (by omega)]
  have hM : AllMore (enc v ++ r) k := fun j hj => by rw [hg j (by omega)]; exact enc_more v j (by omega)
  have htk : (enc v ++ r).take (k + 1) = enc v := by rw [← hk, List.take_left]
  have := got_by (r := enc v ++ r) (k := k) (by
      intro x hx; rcases List.mem_append.1 hx with h | h
      · exact enc_byte v x h
      · exact hr x h) hM (by omega) (by rw [List.length_append]; omega) (by rw [hg k (by omega)]; exact enc_end v k (by omega)) v (by rw [htk, val_enc, Nat.mod_eq_of_lt hv])
  rw [this, htk, if_pos rfl, hk]

theorem getS_put (a b : List Nat) (v : Nat) (hv : v < 18446744073709551616) (hb : ∀ x ∈ b, x < 256) : getS (a ++ enc v ++ b) (a.length : Nat) = (v, a.length + (enc v).length, 0) := by
  unfold getS
  rw [if_neg (by simp; omega), Int.toNat_natCast, List.append_assoc, List.drop_left, got_enc v b hv hb]
  rfl

/-- What is got is put as it stood. -/
theorem got_put {r : List Nat} {v k : Nat} (hb : ∀ x ∈ r, x < 256) (h : got r = .num v k) : k ≤ r.length ∧ enc v = r.take k ∧ v < 18446744073709551616 := by
  -- the first byte below 128
  have find : ∀ m, m ≤ 10 → m ≤ r.length → AllMore r m ∨ ∃ k, k < m ∧ AllMore r k ∧ r.getD k 0 < 128 := by
    intro m
    induction m with
    | zero => intro _ _; exact .inl (AllMore.zero r)
    | succ m ih =>
      intro h1 h2
      rcases ih (by omega) (by omega) with h | ⟨k, hk, hM, hc⟩
      · by_cases hc : 128 ≤ r.getD m 0
        · exact .inl (h.succ hc)
        · exact .inr ⟨m, by omega, h, by omega⟩
      · exact .inr ⟨k, by omega, hM, hc⟩
  by_cases h10 : 10 ≤ r.length
  · rcases find 10 (by omega) h10 with hM | ⟨j, hj, hM, hc⟩
    · rw [got_ten hM h10] at h; cases h
    · have G := got_by hb hM hj (by omega) hc _ rfl
      rw [G] at h
      split at h
      · rename_i he
        injection h with h1 h2
        subst h1 h2
        exact ⟨by omega, he, Nat.mod_lt _ (by decide)⟩
      · cases h
  · rcases find r.length (by omega) (Nat.le_refl _) with hM | ⟨j, hj, hM, hc⟩
    · rw [got_short hM (by omega) rfl] at h; cases h
    · have G := got_by hb hM (by omega) (by omega) hc _ rfl
      rw [G] at h
      split at h
      · rename_i he
        injection h with h1 h2
        subst h1 h2
        exact ⟨by omega, he, Nat.mod_lt _ (by decide)⟩
      · cases h

/-- Of an answer: either an error, or the number's bytes stand there. -/
theorem getS_zero {l : List Nat} {x y z : Nat} (hb : ∀ x ∈ l, x < 256) (h : getS l 0 = (x, y, z)) : z ≠ 0 ∨ (z = 0 ∧ y ≤ l.length ∧ enc x = l.take y ∧ x < 18446744073709551616) := by
  unfold getS at h
  rw [if_neg (by omega)] at h
  cases hg : got (l.drop (0 : Int).toNat) with
  | num v k =>
    rw [hg] at h
    simp only [ans, Prod.mk.injEq] at h
    obtain ⟨rfl, rfl, rfl⟩ := h
    have := got_put (by simpa using hb) hg
    simp at this ⊢
    exact this
  | err e =>
    rw [hg] at h
    simp only [ans, Prod.mk.injEq] at h
    obtain ⟨rfl, rfl, rfl⟩ := h
    left
    intro h0
    subst h0
    have key : ∀ k i v (r : List Nat), scan k i v r ≠ .err 0 := by
      intro k
      induction k with
      | zero => intro i v r hh; simp [scan] at hh
      | succ k ih =>
        intro i v r hh
        cases r with
        | nil => simp [scan] at hh
        | cons c r =>
          simp only [scan] at hh
          split at hh
          · exact ih _ _ _ hh
          · split at hh <;> simp at hh
    exact key _ _ _ _ hg

end Go.Proofs.Ytmnaajdgogehhaa
