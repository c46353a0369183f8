/-
  Layer 8: the document's Do, Of: the plain side, and what lies between two rounds.
-/
import Derived.Test.YtiembenkdldklaaDoorYh
namespace Go.Proofs.YtiembenkdldklaaDoor
open Go Go.RowKit
set_option linter.unusedVariables false

/-- Is i in it then? -/
def doR (how : Nat) (l : List Bool) (ms : List (List Bool)) (i : Nat) : Bool :=
  if how = 0 then bt l i || anyI ms i else if how = 1 then bt l i && allI ms i else bt l i && !anyI ms i
def outK (f : Nat → Bool) (n k : Nat) : List Bool := (List.range n).map fun i => decide (i < k) && f i
def doB (how : Nat) (l : List Bool) (ms : List (List Bool)) : List Bool := outK (doR how l ms) l.length l.length
theorem outK_len (f : Nat → Bool) (n k : Nat) : (outK f n k).length = n := by simp [outK]
theorem outK_zero (f : Nat → Bool) (n : Nat) : outK f n 0 = List.replicate n false := by
  apply List.ext_getElem <;> simp [outK]
theorem outK_set (f : Nat → Bool) {n k : Nat} (h : k < n) : (outK f n k).set k (f k) = outK f n (k + 1) := by
  apply List.ext_getElem
  · simp [outK]
  · intro i h1 h2
    rw [List.getElem_set]
    by_cases e : k = i
    · subst e; simp [outK]
    · rw [if_neg e]
      simp only [outK, List.getElem_map, List.getElem_range]
      congr 1
      by_cases h3 : i < k
      · simp [h3]; omega
      · simp [h3]; omega
theorem bt_outK (f : Nat → Bool) (n k i : Nat) : bt (outK f n k) i = (decide (i < n) && decide (i < k) && f i) := by
  by_cases h : i < n
  · rw [bt_lt (by rw [outK_len]; exact h)]; simp [outK, h]
  · rw [bt_ge (by rw [outK_len]; omega)]; simp [h]
theorem doB_len (how : Nat) (l : List Bool) (ms : List (List Bool)) : (doB how l ms).length = l.length := outK_len _ _ _
theorem bt_doB (how : Nat) (l : List Bool) (ms : List (List Bool)) (i : Nat) : bt (doB how l ms) i = (decide (i < l.length) && doR how l ms i) := by
  unfold doB; rw [bt_outK]; simp
/-- How many differ, below k. -/
def difK (f g : Nat → Bool) (k : Nat) : Nat := (List.range k).countP fun i => f i != g i
theorem difK_succ (f g : Nat → Bool) (k : Nat) : difK f g (k + 1) = difK f g k + (f k != g k).toNat := by
  unfold difK; rw [List.range_succ, List.countP_append]; cases h : (f k != g k) <;> simp [h]
theorem difK_le (f g : Nat → Bool) (k : Nat) : difK f g k ≤ k := by
  unfold difK; have := List.countP_le_length (p := fun i => f i != g i) (l := List.range k); simpa using this
theorem bo_set (l : List Bool) (k : Nat) (b : Bool) : (bo l).set k (.bool b) = bo (l.set k b) := by simp [bo, List.map_set]

/-- How Do ends. -/
def DDo (how : Nat) (l : List Bool) (ms : List (List Bool)) (w : World) (e : Ending) (w' : World) : Prop :=
  ∃ A c, e = .returned (.tuple #[.agg #[.slice A (doB how l ms).length c], .int .i64 (difK (doR how l ms) (bt l) l.length : Int)]) ∧ (DS w' w'.heap.size (.agg #[.slice A (doB how l ms).length c]) (doB how l ms) ∧ Fr w.heap.size (.agg #[.slice A (doB how l ms).length c])) ∧ Below w.heap.size w w'

/-- Between two rounds of Do: the set; the one to be told; the new one; its row. -/
structure DoK (w : World) (A : Option Addr) (c n o : Nat) (A2 : Option Addr) (c2 : Nat) (f : Nat → Bool) (k : Nat) (W : World) : Prop where
  y0 : W.heap[w.heap.size]? = some (.cells #[.slice A n c] 33 (0, 0))
  y1 : W.heap[w.heap.size + 1]? = some (.cells #[.slice none 0 0] 33 (0, 0))
  yo : W.heap[o]? = some (.cells #[.slice A2 n c2] 33 (0, 0))
  row : W.ownsRow (w.heap.size + 2) 4 1 (.slice A2 n c2) n (bo (outK f n k))
  ho : w.heap.size + 2 ≤ o ∧ ∀ g, ob A2 = some g → w.heap.size + 2 ≤ g ∧ g < o
  b : Below w.heap.size w W
section
variable {w W X : World} {A A2 : Option Addr} {c n o c2 k : Nat} {f : Nat → Bool}
theorem DoK.lt (h : DoK w A c n o A2 c2 f k W) : o < W.heap.size := (Array.getElem?_eq_some_iff.1 h.yo).1
theorem DoK.below (h : DoK w A c n o A2 c2 f k W) (hb : Below W.heap.size W X) : DoK w A c n o A2 c2 f k X := by
  have hl := h.lt
  have := h.ho.1
  exact ⟨(hb.block _ (by omega)).trans h.y0, (hb.block _ (by omega)).trans h.y1, (hb.block _ (by omega)).trans h.yo, own_below h.row hb (own_lt h.row), h.ho, h.b.trans (hb.mono h.b.size)⟩
theorem DoK.drewN (h : DoK w A c n o A2 c2 f k W) (q : Nat) : DoK w A c n o A2 c2 f k (W.drewN q) :=
  ⟨h.y0, h.y1, h.yo, own_keep h.row fun _ _ => rfl, h.ho, below_drew_ h.b⟩
theorem DoK.where_ (h : DoK w A c n o A2 c2 f k W) (hk : 0 < n) : ∃ g, A2 = some ⟨g, 0, none⟩ := by
  obtain ⟨g, cap, hv, _, _⟩ := h.row.form hk
  exact ⟨g, by injection hv⟩
theorem DoK.store {g : Nat} (h : DoK w A c n o (some ⟨g, 0, none⟩) c2 f k W) (hk : k < n) : DoK w A c n o (some ⟨g, 0, none⟩) c2 f (k + 1) (W.setCell ⟨g, k, none⟩ (.bool (f k))) := by
  have := h.ho.2 g rfl
  have h2 := (h.row.stored k (.bool (f k))).1
  rw [bo_set, outK_set f hk] at h2
  exact ⟨(heap_setCell_other _ _ _ _ (by show w.heap.size ≠ g; omega)).trans h.y0, (heap_setCell_other _ _ _ _ (by show w.heap.size + 1 ≠ g; omega)).trans h.y1, (heap_setCell_other _ _ _ _ (by show o ≠ g; omega)).trans h.yo, h2, h.ho,
    h.b.setCell (p := ⟨g, k, none⟩) (by show w.heap.size ≤ g; omega) _⟩
theorem DoK.cell {g : Nat} (h : DoK w A c n o (some ⟨g, 0, none⟩) c2 f k W) {j : Nat} (hj : j < n) : W.cell? ⟨g, j, none⟩ = some (.bool (bt (outK f n k) j)) ∧ W.frozen? ⟨g, j, none⟩ = false := by
  refine ⟨?_, h.row.frozenAt j⟩
  have hl : j < (outK f n k).length := by rw [outK_len]; exact hj
  have := h.row.cells (g := g) rfl j (.bool (bt (outK f n k) j)) (by rw [bt_lt hl]; simp [bo, hl])
  rwa [add_plain, Nat.zero_add] at this
end

end Go.Proofs.YtiembenkdldklaaDoor
