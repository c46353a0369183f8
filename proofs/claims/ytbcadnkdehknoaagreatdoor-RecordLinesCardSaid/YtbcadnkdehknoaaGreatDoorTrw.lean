/-
  Layer 4: a row of trees of the call's own, that grows. No program is named here, but the element's type.
-/
import Derived.Test.YtbcadnkdehknoaaGreatDoorTsh
namespace Go.Proofs.YtbcadnkdehknoaaGreatDoor
open Go Go.RowKit
set_option linter.unusedVariables false

theorem Shp.keepL {E : TypeId} {w w' : World} {lo hi : Nat} : ∀ u : V, Lies w lo hi u → Shp E w lo u → (∀ g, lo ≤ g → g < hi → w'.heap[g]? = w.heap[g]?) → Shp E w' lo u := by
  refine V.ind fun k a b A c ps ih hL hS hk => ?_
  have hrd := hL.top.2.2.2.2.2
  have hps : ∀ p ∈ ps, Shp E w' lo p := fun p hp => ih p hp (hL.part hp) (hS.part hp) hk
  cases hS with
  | mk k a b A c ps h1 h2 =>
    refine .mk k a b A c ps (fun hn => ?_) hps
    obtain ⟨g, arr, e, hg, hb, hc⟩ := h1 hn
    obtain ⟨ad, e2, hlt, _⟩ := hrd.lies hn
    have e3 : A = some ad := e2
    rw [e] at e3
    injection e3 with e3
    subst e3
    exact ⟨g, arr, e, hg, (hk g hg hlt).trans hb, hc⟩

theorem below_like4 {B : Nat} {a b b' : World} (h : Below B a b) (e1 : b'.os = b.os) (e2 : b'.tape = b.tape) (e3 : b'.output = b.output) (e4 : b'.heap = b.heap) : Below B a b' :=
  ⟨e1.trans h.os, e2.trans h.tape, e3.trans h.output, by rw [e4]; exact h.size, fun i hi => by rw [e4]; exact h.block i hi⟩

/-- A row of trees of the call's own, in blocks from B on; each tree lies apart from the row. -/
structure TRow (E : TypeId) (B : Nat) (v : Value) (us : List V) (w : World) : Prop where
  own : w.ownsRow B E 4 v us.length (vCells us)
  el : ∀ u ∈ us, ∃ lo hi, B ≤ lo ∧ hi ≤ w.heap.size ∧ Lies w lo hi u ∧ Shp E w lo u ∧ ∀ g, v.ownBlock = some g → g < lo ∨ hi ≤ g

section
variable {E : TypeId} {B : Nat} {v : Value} {us : List V} {w : World}
theorem TRow.nil (E : TypeId) (B : Nat) (w : World) : TRow E B (.slice none 0 0) [] w := ⟨World.ownsRow_nil _ _ _ _, by simp⟩
theorem TRow.keep {w' : World} (h : TRow E B v us w) (hs : w.heap.size ≤ w'.heap.size) (hk : ∀ g, B ≤ g → g < w.heap.size → w'.heap[g]? = w.heap[g]?) : TRow E B v us w' := by
  refine ⟨own_keep h.own fun k hk' => hk k (own_ge h.own k hk') (own_lt h.own k hk'), fun u hu => ?_⟩
  obtain ⟨lo, hi, h1, h2, h3, h4, h5⟩ := h.el u hu
  exact ⟨lo, hi, h1, Nat.le_trans h2 hs, h3.keep fun p hp hp2 => World.cell?_of_block (hk _ (Nat.le_trans h1 hp) (Nat.lt_of_lt_of_le hp2 h2)), Shp.keepL u h3 h4 fun g hg hg2 => hk g (Nat.le_trans h1 hg) (Nat.lt_of_lt_of_le hg2 h2), h5⟩
theorem TRow.under {w' : World} (h : TRow E B v us w) (hb : Below w.heap.size w w') : TRow E B v us w' := h.keep hb.size fun g _ hg => hb.block g hg
theorem TRow.push {w2 w3 w4 : World} {v' : Value} {u : V} (h : TRow E B v us w) (hB : B ≤ w.heap.size) (hb : Below w.heap.size w w2) (hL : Lies w2 w.heap.size w2.heap.size u) (hS : Shp E w2 w.heap.size u)
    (hb3 : Below w2.heap.size w2 w3) (hst : Stp w3 w4 v v') (ho : w4.ownsRow B E 4 v' (us.length + 1) (vCells us ++ vCells [u])) : TRow E B v' (us ++ [u]) w4 := by
  have hlt := own_lt h.own
  have hs2 := hb.size
  have hs3 := hb3.size
  have hs4 := hst.grow.size
  have hrow : ∀ lo hi, (∀ g, v.ownBlock = some g → g < lo ∨ hi ≤ g) → hi ≤ w3.heap.size → ∀ g, v'.ownBlock = some g → g < lo ∨ hi ≤ g := by
    intro lo hi hv hh g hg
    rcases hst.row with e | ⟨k, e, hk⟩
    · exact hv g (e ▸ hg)
    · rw [e] at hg; injection hg with hg; omega
  have hkeep : ∀ lo hi, (∀ g, v.ownBlock = some g → g < lo ∨ hi ≤ g) → hi ≤ w3.heap.size → ∀ g, lo ≤ g → g < hi → w4.heap[g]? = w3.heap[g]? := by
    intro lo hi hv hh g h1 h2
    refine hst.grow.block g (by omega) fun e => ?_
    rcases hv g e.symm with h | h <;> omega
  refine ⟨by rw [List.length_append, vCells_append]; exact ho, fun x hx => ?_⟩
  rcases List.mem_append.1 hx with hx | hx
  · obtain ⟨lo, hi, h1, h2, h3, h4, h5⟩ := h.el x hx
    have hk : ∀ g, lo ≤ g → g < hi → w4.heap[g]? = w.heap[g]? := fun g g1 g2 => (hkeep lo hi h5 (by omega) g g1 g2).trans ((hb3.block g (by omega)).trans (hb.block g (by omega)))
    exact ⟨lo, hi, h1, by omega, h3.keep fun p hp hp2 => World.cell?_of_block (hk _ hp hp2), Shp.keepL x h3 h4 hk, hrow lo hi h5 (by omega)⟩
  · obtain rfl : x = u := by simpa using hx
    have hv : ∀ g, v.ownBlock = some g → g < w.heap.size ∨ w2.heap.size ≤ g := fun g hg => .inl (hlt g hg)
    have hk : ∀ g, w.heap.size ≤ g → g < w2.heap.size → w4.heap[g]? = w2.heap[g]? := fun g g1 g2 => (hkeep _ _ hv (by omega) g g1 g2).trans (hb3.block g (by omega))
    exact ⟨w.heap.size, w2.heap.size, hB, by omega, hL.keep fun p hp hp2 => World.cell?_of_block (hk _ hp hp2), Shp.keepL x hL hS hk, hrow _ _ hv (by omega)⟩
theorem TRow.tree {A : Option Addr} {n c : Nat} {k : Int} {a b : Nat} (h : TRow E B (.slice A n c) us w) (hk : -9223372036854775808 ≤ k ∧ k ≤ 9223372036854775807) (ha : a < 18446744073709551616) (hb : b < 18446744073709551616) :
    n = us.length ∧ Lies w B w.heap.size (.node k a b A c us) ∧ Shp E w B (.node k a b A c us) := by
  have hn : n = us.length := by
    obtain ⟨A2, c2, e, _⟩ := own_form h.own
    injection e
  subst hn
  refine ⟨rfl, .mk k a b A c us hk ha hb (Rd.own h.own) (own_cap h.own) (fun ad e hn => ?_) fun p hp => ?_, Shp.own k a b h.own (Nat.le_refl _) fun u hu => ?_⟩
  · subst e
    obtain ⟨g, cap, hv, _, _⟩ := h.own.form hn
    have e : ad = ⟨g, 0, none⟩ := by injection hv with e; injection e
    subst e
    exact own_ge h.own g rfl
  · obtain ⟨lo, hi, h1, h2, h3, _⟩ := h.el p hp
    exact h3.more h1 h2
  · obtain ⟨lo, hi, h1, h2, _, h4, _⟩ := h.el u hu
    exact h4.more h1
end

/-- A tree comes back that the call made, of parts of the type E. -/
def MadeT (E : TypeId) (t : T) (w : World) (e : Ending) (w' : World) : Prop :=
  ∃ u : V, e = .returned u.val ∧ u.abs = t ∧ Lies w' w.heap.size w'.heap.size u ∧ Shp E w' w.heap.size u ∧ Below w.heap.size w w'

end Go.Proofs.YtbcadnkdehknoaaGreatDoor
