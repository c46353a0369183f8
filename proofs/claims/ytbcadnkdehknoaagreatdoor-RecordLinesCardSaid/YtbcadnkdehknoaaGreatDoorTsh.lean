/-
  Layer 4: the shape of a tree in new memory: what a writer over it needs, and keeps. No program is named here, but the element's type.
-/
import Derived.Test.YtbcadnkdehknoaaGreatDoorTre
import Derived.Laws.OwnMore
import Derived.Lib.SmallJoins
namespace Go.Proofs.YtbcadnkdehknoaaGreatDoor
open Go Go.RowKit
set_option linter.unusedVariables false

/-- A tree's rows stand at their blocks' heads, from block lo on: each part's four cells are of their kinds, the last one as it was. -/
inductive Shp (E : TypeId) (w : World) (lo : Nat) : V → Prop
  | mk (k : Int) (a b : Nat) (A : Option Addr) (c : Nat) (ps : List V) : (0 < ps.length → ∃ (g : Nat) (arr : Array Value), A = some ⟨g, 0, none⟩ ∧ lo ≤ g ∧ w.heap[g]? = some (.cells arr E (0, 0)) ∧
      ∀ (i : Nat) (p : V), ps[i]? = some p → (∃ z, arr[i * 4]? = some (.int .i64 z)) ∧ (∃ z, arr[i * 4 + 1]? = some (.int .u64 z)) ∧ (∃ z, arr[i * 4 + 2]? = some (.int .u64 z)) ∧ arr[i * 4 + 3]? = some p.sl) →
      (∀ p, p ∈ ps → Shp E w lo p) → Shp E w lo (.node k a b A c ps)

section
variable {E : TypeId} {w w' : World} {lo lo' : Nat} {v : V}
theorem Shp.keep (h : Shp E w lo v) (hk : ∀ g, lo ≤ g → g < w.heap.size → w'.heap[g]? = w.heap[g]?) : Shp E w' lo v := by
  induction h with
  | mk k a b A c ps h1 _ ih =>
    refine .mk k a b A c ps (fun hn => ?_) ih
    obtain ⟨g, arr, e, hg, hb, hc⟩ := h1 hn
    exact ⟨g, arr, e, hg, (hk g hg (Array.getElem?_eq_some_iff.1 hb).1).trans hb, hc⟩
theorem Shp.under (h : Shp E w lo v) (hb : Below w.heap.size w w') : Shp E w' lo v := h.keep fun g _ hg => hb.block g hg
theorem Shp.more (h : Shp E w lo v) (hl : lo' ≤ lo) : Shp E w lo' v := by
  induction h with
  | mk k a b A c ps h1 _ ih =>
    refine .mk k a b A c ps (fun hn => ?_) ih
    obtain ⟨g, arr, e, hg, hb, hc⟩ := h1 hn
    exact ⟨g, arr, e, Nat.le_trans hl hg, hb, hc⟩
/-- A store into another block. -/
theorem Shp.aside (h : Shp E w lo v) {g i : Nat} (hg : g < lo) (x : Value) : Shp E (w.setCell ⟨g, i, none⟩ x) lo v :=
  h.keep fun k hk _ => Below.heap_setCell w ⟨g, i, none⟩ x k (by show k ≠ g; omega)
/-- A kind, or a number, is written over. -/
theorem Shp.over (h : Shp E w lo v) {g i : Nat} {x : Value} (hx : (∃ j, i = j * 4 ∧ ∃ z, x = .int .i64 z) ∨ (∃ j, i = j * 4 + 1 ∧ ∃ z, x = .int .u64 z)) : Shp E (w.setCell ⟨g, i, none⟩ x) lo v := by
  induction h with
  | mk k a b A c ps h1 _ ih =>
    refine .mk k a b A c ps (fun hn => ?_) ih
    obtain ⟨g', arr, e, hg, hb, hc⟩ := h1 hn
    by_cases hgg : g' = g
    · subst hgg
      refine ⟨g', arr.setIfInBounds i x, e, hg, Joins.block_setCell hb x, fun j p hp => ?_⟩
      obtain ⟨⟨z0, c0⟩, ⟨z1, c1⟩, ⟨z2, c2⟩, c3⟩ := hc j p hp
      have key : ∀ m u, arr[m]? = some u → i ≠ m → (arr.setIfInBounds i x)[m]? = some u := fun m u hm hne => by
        rw [Array.getElem?_setIfInBounds, if_neg hne]; exact hm
      have same : ∀ u, arr[i]? = some u → (arr.setIfInBounds i x)[i]? = some x := fun u hu => by
        rw [Array.getElem?_setIfInBounds, if_pos rfl, if_pos (Array.getElem?_eq_some_iff.1 hu).1]
      refine ⟨?_, ?_, ?_, ?_⟩
      · by_cases h0 : i = j * 4
        · subst h0
          rcases hx with ⟨j', _, z, rfl⟩ | ⟨j', hj, _⟩
          · exact ⟨z, same _ c0⟩
          · omega
        · exact ⟨z0, key _ _ c0 h0⟩
      · by_cases h0 : i = j * 4 + 1
        · subst h0
          rcases hx with ⟨j', hj, _⟩ | ⟨j', _, z, rfl⟩
          · omega
          · exact ⟨z, same _ c1⟩
        · exact ⟨z1, key _ _ c1 h0⟩
      · exact ⟨z2, key _ _ c2 (by rcases hx with ⟨j', hj, _⟩ | ⟨j', hj, _⟩ <;> omega)⟩
      · exact key _ _ c3 (by rcases hx with ⟨j', hj, _⟩ | ⟨j', hj, _⟩ <;> omega)
    · exact ⟨g', arr, e, hg, (Below.heap_setCell w ⟨g, i, none⟩ x g' hgg).trans hb, hc⟩
/-- A row of the call's own has the shape. -/
theorem Shp.own {A : Option Addr} {c base : Nat} {us : List V} (k : Int) (a b : Nat) (h : w.ownsRow base E 4 (.slice A us.length c) us.length (vCells us)) (hb : lo ≤ base) (hu : ∀ u ∈ us, Shp E w lo u) : Shp E w lo (.node k a b A c us) := by
  refine .mk k a b A c us (fun hn => ?_) hu
  rcases h.2 with ⟨h0, _⟩ | ⟨g, cap, cur, hv, hbg, hh, _⟩
  · exfalso
    injection h0 with _ h0
    omega
  · have hA : A = some ⟨g, 0, none⟩ := by injection hv
    have hcap : c = cap := by injection hv
    subst hA hcap
    refine ⟨g, cur, rfl, Nat.le_trans hb hbg, hh, fun i p hp => ?_⟩
    have hi := (List.getElem?_eq_some_iff.1 hp).1
    have hc : ∀ j u, j < 4 → p.cells[j]? = some u → cur[i * 4 + j]? = some u := fun j u hj hu => by
      have := h.cellAt (g := g) (i * 4 + j) (by omega)
      rw [vCells_get us i j p hp hj, hu] at this
      simpa [World.cell?, hh] using this
    exact ⟨⟨_, hc 0 _ (by omega) rfl⟩, ⟨_, hc 1 _ (by omega) rfl⟩, ⟨_, hc 2 _ (by omega) rfl⟩, hc 3 _ (by omega) rfl⟩
theorem Shp.part {p : V} (h : Shp E w lo v) (hp : p ∈ v.parts) : Shp E w lo p := by
  cases h with
  | mk k a b A c ps h1 h2 => exact h2 p hp
theorem Shp.nth {k : Int} {a b c i : Nat} {A : Option Addr} {ps : List V} {p : V} (h : Shp E w lo (.node k a b A c ps)) (hp : ps[i]? = some p) : ∃ g, A = some ⟨g, 0, none⟩ ∧ lo ≤ g ∧ g < w.heap.size ∧ Shp E w lo p ∧ (∀ j, w.frozen? ⟨g, j, none⟩ = false) ∧
    (∃ z, w.cell? ⟨g, i * 4, none⟩ = some (.int .i64 z)) ∧ (∃ z, w.cell? ⟨g, i * 4 + 1, none⟩ = some (.int .u64 z)) ∧ (∃ z, w.cell? ⟨g, i * 4 + 2, none⟩ = some (.int .u64 z)) ∧ w.cell? ⟨g, i * 4 + 3, none⟩ = some p.sl := by
  cases h with
  | mk k a b A c ps h1 h2 =>
    obtain ⟨g, arr, e, hg, hb, hc⟩ := h1 (by have := (List.getElem?_eq_some_iff.1 hp).1; omega)
    obtain ⟨⟨z0, c0⟩, ⟨z1, c1⟩, ⟨z2, c2⟩, c3⟩ := hc i p hp
    have key : ∀ m u, arr[m]? = some u → w.cell? ⟨g, m, none⟩ = some u := fun m u hm => by simp [World.cell?, hb, hm]
    exact ⟨g, e, hg, (Array.getElem?_eq_some_iff.1 hb).1, h2 p (List.mem_of_getElem? hp), fun j => by simp [World.frozen?, hb], ⟨z0, key _ _ c0⟩, ⟨z1, key _ _ c1⟩, ⟨z2, key _ _ c2⟩, key _ _ c3⟩
end

end Go.Proofs.YtbcadnkdehknoaaGreatDoor
