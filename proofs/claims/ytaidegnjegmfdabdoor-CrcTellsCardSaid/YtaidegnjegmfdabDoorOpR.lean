/-
  A slice of slices of bytes that came in reads as rows of bytes.
-/
import Derived.Test.YtaidegnjegmfdabDoorOpen
import Derived.Test.YtaidegnjegmfdabDoorSum
import Derived.Deep.Matrix
namespace Go.Proofs.YtaidegnjegmfdabDoor
open Go Go.RowKit Go.Deep
set_option linter.unusedVariables false

section
variable {H : Type} {enc : TypeId × Value → H} {P : Program} {w : World} {base : Nat} {held : Bool}
theorem rows_read {t e q : TypeId} {fuel : Nat} {v : Value} {x : DataW H × List MemPlace} (ht : P.underlying t = some (.slice e)) (he : P.underlying e = some (.slice q)) (hq : P.underlying q = some (.int .u8))
    (ce : P.cellsOf e = 1) (cq : P.cellsOf q = 1) (h : DataW.trod enc P w base (fun _ => true) held fuel t [v] = some x) :
    ∃ A n c vs ls, v = .slice A n c ∧ Rd w w.heap.size 1 A n vs ∧ Rws w w.heap.size vs ls ∧ n ≤ c ∧ c ≤ 9223372036854775807 := by
  rcases open_int_rows ht he hq ce cq h with ⟨hcs, _⟩ | ⟨a, len, cap, A, L, C, Z, hcs, _, hl, hm, _, hrow⟩
  · simp only [List.cons.injEq, and_true] at hcs
    exact ⟨none, 0, 0, [], [], hcs, Rd.zero, Rws.nil _ _, Nat.le_refl _, by omega⟩
  · simp only [List.cons.injEq, and_true] at hcs
    have each : ∀ r, r < cap → ∃ l : List Nat, Rd w w.heap.size 1 (A r) (L r) (bs l) ∧ (∀ x ∈ l, x < 256) ∧ L r ≤ C r ∧ C r ≤ 9223372036854775807 := by
      intro r hr
      obtain ⟨_, h1, h2, h3, h4, h5, h6⟩ := hrow r hr
      cases hA : A r with
      | none =>
        have hC := h5 hA
        have hZ : Z r = [] := List.eq_nil_of_length_eq_zero (by omega)
        exact IsRow.rd (zs := Z r) (.inl ⟨rfl, by omega, hC, hZ⟩)
      | some a' =>
        exact IsRow.rd (zs := Z r) (.inr ⟨a', rfl, h1, h2, h3, fun i hi => (h6 a' hA).2 i (by omega), h4⟩)
    have build : ∀ m, m ≤ len → ∃ ls : List (List Nat), ls.length = m ∧ ∀ j, j < m → Rd w w.heap.size 1 (A j) (L j) (bs (ls.getD j [])) ∧ (∀ x ∈ ls.getD j [], x < 256) ∧ L j ≤ C j ∧ C j ≤ 9223372036854775807 := by
      intro m
      induction m with
      | zero => intro _; exact ⟨[], rfl, fun j hj => by omega⟩
      | succ m ih =>
        intro hm'
        obtain ⟨ls, hls, hp⟩ := ih (by omega)
        obtain ⟨l, hlp⟩ := each m (by omega)
        refine ⟨ls ++ [l], by simp [hls], fun j hj => ?_⟩
        by_cases hjm : j = m
        · subst hjm
          have e : (ls ++ [l]).getD j [] = l := by
            rw [List.getD_eq_getElem?_getD, List.getElem?_append_right (by omega), hls]; simp
          rw [e]
          exact hlp
        · have e : (ls ++ [l]).getD j [] = ls.getD j [] := by
            rw [List.getD_eq_getElem?_getD, List.getElem?_append_left (by omega), ← List.getD_eq_getElem?_getD]
          rw [e]
          exact hp j (by omega)
    obtain ⟨ls, hls, hp⟩ := build len (Nat.le_refl _)
    refine ⟨some a, len, cap, (List.range len).map fun r => .slice (A r) (L r) (C r), ls, hcs, ⟨by simp, fun h0 => ⟨a, rfl, ?_, fun j u hu => ?_⟩⟩, ⟨by simp [hls], fun j hj => ?_⟩, hl, by unfold maxLen at hm; omega⟩
    · have := World.block_lt_of_cell? w _ (hrow 0 (by omega)).1
      rw [add_block] at this
      exact this
    · have hj : j < len := by
        rcases Nat.lt_or_ge j len with h1 | h1
        · exact h1
        · rw [List.getElem?_eq_none (by simp; omega)] at hu; cases hu
      rw [List.getElem?_map, List.getElem?_range hj] at hu
      simp only [Option.map_some, Option.some.injEq] at hu
      rw [← hu]
      exact (hrow j (by omega)).1
    · have hj' : j < len := by omega
      obtain ⟨h1, h2, h3, h4⟩ := hp j hj'
      exact ⟨A j, L j, C j, by rw [List.getElem?_map, List.getElem?_range hj']; rfl, h1, h2, h3, h4⟩
end

end Go.Proofs.YtaidegnjegmfdabDoor
