/-
  The frames of bytes, one behind the other. No program is named here.
-/
import Derived.Test.YtedglcbeheeonaaDoorFrg
namespace Go.Proofs.YtedglcbeheeonaaDoor
open Go Go.RowKit

/-- The frames from a on, where they end, and the rule that is offended there (0: none). -/
def evs (l : List Nat) : Nat → Nat → List (Nat × List Nat × Nat × Nat) × Nat × Nat
  | 0, a => ([], a, 0)
  | f + 1, a => if l.length ≤ a then ([], a, 0) else
    match frN l a with
    | .bad r => ([], a, r)
    | .good k p nx => ((k, p, a, nx) :: (evs l f nx).1, (evs l f nx).2)
/-- P3.3. -/
def splitS (l : List Nat) : List (Nat × List Nat × Nat × Nat) × Nat × Nat := evs l (l.length + 1) 0

section
variable {l : List Nat} {f a : Nat}
theorem evs_end (h : l.length ≤ a) : evs l (f + 1) a = ([], a, 0) := by rw [evs, if_pos h]
theorem evs_bad {r : Nat} (h : a < l.length) (h2 : frN l a = .bad r) : evs l (f + 1) a = ([], a, r) := by rw [evs, if_neg (by omega), h2]
theorem evs_good {k nx : Nat} {p : List Nat} (h : a < l.length) (h2 : frN l a = .good k p nx) : evs l (f + 1) a = ((k, p, a, nx) :: (evs l f nx).1, (evs l f nx).2) := by rw [evs, if_neg (by omega), h2]
end

/-- The frames ds have been told, the next one stands at a. -/
def At (l : List Nat) (ds : List (Nat × List Nat × Nat × Nat)) (a : Nat) : Prop :=
  a ≤ l.length ∧ ∃ f, l.length < a + f ∧ splitS l = (ds ++ (evs l f a).1, (evs l f a).2)
theorem At.zero (l : List Nat) : At l [] 0 := ⟨Nat.zero_le _, l.length + 1, by omega, by unfold splitS; simp⟩
theorem At.step {l : List Nat} {ds : List (Nat × List Nat × Nat × Nat)} {a k nx : Nat} {p : List Nat} (hb : ∀ x ∈ l, x < 256) (h : At l ds a) (ha : a < l.length) (h2 : frN l a = .good k p nx) : At l (ds ++ [(k, p, a, nx)]) nx ∧ a < nx := by
  obtain ⟨h1, f, hf, hs⟩ := h
  obtain ⟨e1, e2, _⟩ := frN_stands hb ha h2
  rw [frS_length] at e1
  obtain ⟨f, rfl⟩ : ∃ g, f = g + 1 := ⟨f - 1, by omega⟩
  rw [evs_good ha h2] at hs
  exact ⟨⟨e2, f, by omega, by rw [hs]; simp⟩, by omega⟩
theorem At.bad {l : List Nat} {ds : List (Nat × List Nat × Nat × Nat)} {a r : Nat} (h : At l ds a) (ha : a < l.length) (h2 : frN l a = .bad r) : splitS l = (ds, a, r) := by
  obtain ⟨h1, f, hf, hs⟩ := h
  obtain ⟨f, rfl⟩ : ∃ g, f = g + 1 := ⟨f - 1, by omega⟩
  rw [evs_bad ha h2] at hs
  simpa using hs
theorem At.fin {l : List Nat} {ds : List (Nat × List Nat × Nat × Nat)} (h : At l ds l.length) : splitS l = (ds, l.length, 0) := by
  obtain ⟨h1, f, hf, hs⟩ := h
  obtain ⟨f, rfl⟩ : ∃ g, f = g + 1 := ⟨f - 1, by omega⟩
  rw [evs_end (Nat.le_refl _)] at hs
  simpa using hs
theorem At.pre {l : List Nat} {ds : List (Nat × List Nat × Nat × Nat)} {a : Nat} (h : At l ds a) : ∃ rest e, splitS l = (ds ++ rest, e) := by
  obtain ⟨_, f, _, hs⟩ := h
  exact ⟨_, _, hs⟩

end Go.Proofs.YtedglcbeheeonaaDoor
