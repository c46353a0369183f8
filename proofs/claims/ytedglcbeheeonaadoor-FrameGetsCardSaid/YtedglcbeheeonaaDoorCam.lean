/-
  A row that came in, written over and put back. No program is named here.
-/
import Derived.Test.YtedglcbeheeonaaDoorMem
import Derived.Laws.IdiomCopy
import Derived.Deep.AppendLies
import Derived.Lib.SmallJoins
namespace Go.Proofs.YtedglcbeheeonaaDoor
open Go Go.RowKit
set_option linter.unusedVariables false

/-- w' is w but for n cells from A on. -/
structure But (A : Option Addr) (n : Nat) (w w' : World) : Prop where
  os : w'.os = w.os
  tape : w'.tape = w.tape
  output : w'.output = w.output
  size : w.heap.size ≤ w'.heap.size
  other : ∀ k, k < w.heap.size → (0 < n → ∀ ad, A = some ad → k ≠ ad.block) → w'.heap[k]? = w.heap[k]?
  blk : 0 < n → ∀ ad, A = some ad → ∃ (arr arr' : Array Value) (T : TypeId) (fr : Nat × Nat), w.heap[ad.block]? = some (.cells arr T fr) ∧ w'.heap[ad.block]? = some (.cells arr' T fr) ∧ arr'.size = arr.size ∧ ∀ i, (i < ad.off ∨ ad.off + n ≤ i) → arr'[i]? = arr[i]?

theorem cells_of_cell {w : World} {a : Addr} {u : Value} (h : w.cell? a = some u) : ∃ (arr : Array Value) (T : TypeId) (fr : Nat × Nat), w.heap[a.block]? = some (.cells arr T fr) ∧ a.spot = none ∧ arr[a.off]? = some u := by
  unfold World.cell? at h
  split at h
  · rename_i c T fr e
    split at h
    · cases h
    · rename_i hs
      exact ⟨c, T, fr, e, by simpa using hs, h⟩
  · cases h

section
variable {A : Option Addr} {n B size : Nat} {w w' w'' : World} {xs : List Value}
theorem But.refl (h : Rd w B 1 A n xs) : But A n w w := ⟨rfl, rfl, rfl, Nat.le_refl _, fun _ _ _ => rfl, fun hn ad e => by
  obtain ⟨ad', e', _, hc⟩ := h.lies hn
  rw [e] at e'; injection e' with e'; subst e'
  have hl := h.len
  obtain ⟨u, hu⟩ : ∃ u, xs[0]? = some u := ⟨_, List.getElem?_eq_getElem (by omega)⟩
  obtain ⟨arr, T, fr, h1, _⟩ := cells_of_cell (hc 0 u hu)
  rw [add_block] at h1
  exact ⟨arr, arr, T, fr, h1, h1, rfl, fun _ _ => rfl⟩⟩
theorem But.below (h : But A n w w') (hb : Below w'.heap.size w' w'') (hA : ∀ ad, 0 < n → A = some ad → ad.block < w.heap.size) : But A n w w'' :=
  ⟨hb.os.trans h.os, hb.tape.trans h.tape, hb.output.trans h.output, Nat.le_trans h.size hb.size, fun k hk hx => (hb.block k (Nat.lt_of_lt_of_le hk h.size)).trans (h.other k hk hx), fun hn ad e => by
    obtain ⟨arr, arr', T, fr, h1, h2, h3, h4⟩ := h.blk hn ad e
    exact ⟨arr, arr', T, fr, h1, (hb.block _ (Nat.lt_of_lt_of_le (hA ad hn e) h.size)).trans h2, h3, h4⟩⟩
theorem But.set (h : But A n w w') {ad : Addr} (hA : A = some ad) {i : Nat} (hi : i < n) (v : Value) : But A n w (w'.setCell ⟨ad.block, ad.off + i, none⟩ v) := by
  subst hA
  refine ⟨h.os, h.tape, h.output, by have := h.size; simpa [World.setCell] using this, fun k hk hx => (Below.heap_setCell w' ⟨ad.block, ad.off + i, none⟩ v k (fun e => hx (by omega) ad rfl e)).trans (h.other k hk hx), fun hn ad' e => ?_⟩
  obtain ⟨arr, arr', T, fr, h1, h2, h3, h4⟩ := h.blk hn ad' e
  injection e with e; subst e
  refine ⟨arr, arr'.setIfInBounds (ad.off + i) v, T, fr, h1, Joins.block_setCell h2 v, by simpa using h3, fun j hj => ?_⟩
  rw [Array.getElem?_setIfInBounds, if_neg (by omega)]
  exact h4 j hj
theorem But.cell (h : But A n w w') {p : Addr} (hp : p.block < w.heap.size) (hx : 0 < n → ∀ ad, A = some ad → p.block ≠ ad.block) : w'.cell? p = w.cell? p :=
  World.cell?_of_block (h.other p.block hp hx)
theorem But.frozen (h : But A n w w') {ad : Addr} (hA : A = some ad) (hn : 0 < n) (i : Nat) : w'.frozen? ⟨ad.block, i, none⟩ = w.frozen? ⟨ad.block, i, none⟩ := by
  obtain ⟨arr, arr', T, fr, h1, h2, _⟩ := h.blk hn ad hA
  simp [World.frozen?, h1, h2]
/-- What was written over reads as before: all is as it was. -/
theorem But.back (h : But A n w w') (hB : ∀ ad, A = some ad → 0 < n → ∀ i, i < n → w'.cell? ⟨ad.block, ad.off + i, none⟩ = w.cell? ⟨ad.block, ad.off + i, none⟩) : Below w.heap.size w w' := by
  refine ⟨h.os, h.tape, h.output, h.size, fun k hk => ?_⟩
  by_cases hx : 0 < n ∧ ∃ ad, A = some ad ∧ k = ad.block
  · obtain ⟨hn, ad, e, rfl⟩ := hx
    obtain ⟨arr, arr', T, fr, h1, h2, h3, h4⟩ := h.blk hn ad e
    rw [h1, h2]
    congr 2
    apply Array.ext_getElem?
    intro j
    by_cases hj : j < ad.off ∨ ad.off + n ≤ j
    · exact h4 j hj
    · have := hB ad e hn (j - ad.off) (by omega)
      rw [show ad.off + (j - ad.off) = j by omega] at this
      simpa [World.cell?, h1, h2] using this
  · exact h.other k hk fun hn ad e he => hx ⟨hn, ad, e, he⟩
end

/-- The row may be written. -/
def Free (w : World) (A : Option Addr) (n : Nat) : Prop := ∀ ad, A = some ad → ∀ i, i < n → w.frozen? ⟨ad.block, ad.off + i, none⟩ = false

theorem But.free {A : Option Addr} {n : Nat} {w w' : World} (h : But A n w w') (hf : Free w A n) : Free w' A n := fun ad e i hi => (h.frozen e (by omega) _).trans (hf ad e i hi)

theorem But.sets {n : Nat} {w : World} {ad : Addr} : ∀ (vs : List Value) (i : Nat) (w' : World), But (some ad) n w w' → i + vs.length ≤ n → But (some ad) n w (w'.setCells ad.block (ad.off + i) vs)
  | [], _, _, h, _ => h
  | v :: r, i, w', h, hl => by
    simp only [World.setCells, List.length_cons] at hl ⊢
    exact But.sets r (i + 1) _ (h.set rfl (i := i) (by omega) v) (by omega)

theorem rd_cells {w : World} {B n : Nat} {A : Option Addr} {xs : List Value} (h : Rd w B 1 A n xs) (hn : 0 < n) : ∃ b off, A = some ⟨b, off, none⟩ ∧ b < B ∧ ∀ j u, xs[j]? = some u → w.cell? ⟨b, off + j, none⟩ = some u := by
  obtain ⟨ad, e, hb, hc⟩ := h.lies hn
  have hl := h.len
  obtain ⟨u, hu⟩ : ∃ u, xs[0]? = some u := ⟨_, List.getElem?_eq_getElem (by omega)⟩
  obtain ⟨b, off, sp⟩ := ad
  have hsp : sp = none := World.cell?_spot (a := ⟨b, off, sp⟩) (hc 0 u hu)
  subst hsp
  refine ⟨b, off, e, hb, fun j u hu => ?_⟩
  have := hc j u hu
  rwa [show (⟨b, off, none⟩ : Addr).add j = ⟨b, off + j, none⟩ by unfold Addr.add; split <;> simp_all] at this

end Go.Proofs.YtedglcbeheeonaaDoor
