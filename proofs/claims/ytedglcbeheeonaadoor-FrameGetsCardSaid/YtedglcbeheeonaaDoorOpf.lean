/-
  A frame that came in, and a slice of frames that came in: what their cells hold.
-/
import Derived.Test.YtedglcbeheeonaaDoorOpen
import Derived.Test.YtedglcbeheeonaaDoorFpt
import Derived.Deep.Slices
import Derived.Deep.Fields
import Derived.ChangeSame
namespace Go.Proofs.YtedglcbeheeonaaDoor
open Go Go.RowKit Go.Deep Go.ChangeShapes Go.WideShapes
set_option linter.unusedVariables false

section
variable {H : Type} {enc : TypeId × Value → H} {P : Program} {w : World} {base : Nat} {spare : Nat → Bool} {held : Bool}

/-- Each field of a struct whose fields are of one cell each reads by itself. -/
theorem fields_read {t : TypeId} {fs : Array Field} {fuel : Nat} {cs : List Value} {x : DataW H × List MemPlace} (hs : P.underlying t = some (.struct fs)) (hone : oneCellFields P fs = true)
    (h : DataW.trod enc P w base spare held fuel t cs = some x) :
    cs.length = P.cellsOf t ∧ ∃ n, ∀ (j : Nat) (f : Field), fs[j]? = some f → ∃ y, DataW.trod enc P w base spare held n f.type ((cs.drop j).take 1) = some y := by
  obtain ⟨ys, n, _, _, hlen, hyl, hf⟩ := DataW.trod_struct hs h
  refine ⟨hlen, n, fun j f hj => ?_⟩
  obtain ⟨ho, hk⟩ := hone_of hone j f hj
  have hjl : j < fs.size := (Array.getElem?_eq_some_iff.1 hj).1
  have h1 := hf j f hj
  rw [ho, hk] at h1
  exact ⟨ys[j]'(by omega), h1.trans (List.getElem?_eq_getElem (by omega))⟩

theorem row_read {t e : TypeId} {k : IntKind} {fuel : Nat} {v : Value} {x : DataW H × List MemPlace} (ht : P.underlying t = some (.slice e)) (he : P.underlying e = some (.int k)) (hc : P.cellsOf e = 1)
    (h : DataW.trod enc P w base (fun _ => true) held fuel t [v] = some x) : ∃ a len cap zs, v = .slice a len cap ∧ IsRow k w a len cap zs := by
  rcases open_ints ht he hc h with ⟨hcs, _⟩ | ⟨a, len, cap, zs, hcs, _, hl, hm, hz, _, hcell, hw⟩
  · simp only [List.cons.injEq, and_true] at hcs
    exact ⟨none, 0, 0, [], hcs, .inl ⟨rfl, rfl, rfl, rfl⟩⟩
  · simp only [List.cons.injEq, and_true] at hcs
    exact ⟨_, len, cap, zs, hcs, .inr ⟨a, rfl, hl, hm, by simpa using hz, hcell, hw⟩⟩
end

section
variable {H : Type} {enc : TypeId × Value → H} {w : World} {base : Nat} {held : Bool}
theorem fr_read {fuel : Nat} {cs : List Value} {x : DataW H × List MemPlace} (h : DataW.trod enc Tryd.prog w base (fun _ => true) held fuel 25 cs = some x) :
    ∃ (f : FrV) (p : List Nat), cs = f.cells ∧ FrOK w w.heap.size f (f.k, p) := by
  obtain ⟨hlen, n, hf⟩ := fields_read Tryd.underlying25 (by kernel_rfl) h
  have h2 : Tryd.prog.cellsOf 25 = 2 := by kernel_rfl
  rw [h2] at hlen
  match cs, hlen with
  | [c0, c1], _ =>
    obtain ⟨y0, g0⟩ := hf 0 _ rfl
    obtain ⟨y1, g1⟩ := hf 1 _ rfl
    obtain ⟨d, e0, _, w0⟩ := DataW.trod_int Tryd.underlying5 g0
    obtain ⟨bA, bn, bc, zb, e1, rb⟩ := row_read Tryd.underlying23 Tryd.underlying5 (by kernel_rfl) g1
    simp at e0
    subst e0 e1
    obtain ⟨bl, r1, r2, r3⟩ := rb.rd
    have hv := bounds_u8 w0
    obtain ⟨d, rfl⟩ : ∃ u : Nat, d = u := ⟨d.toNat, by omega⟩
    exact ⟨⟨d, bA, bn, bc⟩, bl, rfl, ⟨rfl, by show d < 256; omega, r1, r2, r3⟩⟩

theorem frs_read {fuel : Nat} {v : Value} {x : DataW H × List MemPlace} (h : DataW.trod enc Tryd.prog w base (fun _ => true) held fuel 22 [v] = some x) :
    ∃ (A : Option Addr) (n c : Nat) (l : List FrV) (ds : List (Nat × List Nat)), v = .slice A n c ∧ Rd w w.heap.size 2 A n (frCells l) ∧ FrRow w w.heap.size l ds ∧ n ≤ c ∧ c ≤ 9223372036854775807 := by
  rcases open_slice Tryd.underlying22 h with ⟨hcs, _⟩ | ⟨a, len, cap, m, k, D, Pl, hcs, _, hl, hm, hmm, _, hi⟩
  · simp only [List.cons.injEq, and_true] at hcs
    exact ⟨none, 0, 0, [], [], hcs, Rd.zero, ⟨rfl, by simp⟩, Nat.le_refl _, by omega⟩
  · simp only [List.cons.injEq, and_true] at hcs
    simp only [if_true] at hmm
    have h2 : Tryd.prog.cellsOf 25 = 2 := by kernel_rfl
    have each : ∀ i, i < len → ∃ (u : FrV) (p : List Nat), FrOK w w.heap.size u (u.k, p) ∧ ∀ j, j < 2 → w.cell? ((a.add (i * 2)).add j) = u.cells[j]? := by
      intro i hil
      obtain ⟨cs', hc, ht⟩ := hi i (by omega)
      rw [h2] at hc
      obtain ⟨u, p, rfl, hok⟩ := fr_read ht
      exact ⟨u, p, hok, (World.cells?_some hc).2.2⟩
    obtain ⟨l, ds, hll, hdl, hat⟩ : ∃ (l : List FrV) (ds : List (Nat × List Nat)), l.length = len ∧ ds.length = len ∧ ∀ i (u : FrV) (d : Nat × List Nat), l[i]? = some u → ds[i]? = some d → FrOK w w.heap.size u d ∧ ∀ j, j < 2 → w.cell? ((a.add (i * 2)).add j) = u.cells[j]? := by
      clear h hi hcs
      have aux : ∀ k, k ≤ len → ∃ (l : List FrV) (ds : List (Nat × List Nat)), l.length = k ∧ ds.length = k ∧ ∀ i (u : FrV) (d : Nat × List Nat), l[i]? = some u → ds[i]? = some d → FrOK w w.heap.size u d ∧ ∀ j, j < 2 → w.cell? ((a.add (i * 2)).add j) = u.cells[j]? := by
        intro k
        induction k with
        | zero => intro _; exact ⟨[], [], rfl, rfl, by simp⟩
        | succ k ih =>
          intro hk
          obtain ⟨l, ds, h1, h1', h2⟩ := ih (by omega)
          obtain ⟨u, p, g1, g2⟩ := each k (by omega)
          refine ⟨l ++ [u], ds ++ [(u.k, p)], by simp [h1], by simp [h1'], fun i x d hx hd => ?_⟩
          rcases Nat.lt_or_ge i k with h3 | h3
          · rw [List.getElem?_append_left (by omega)] at hx hd; exact h2 i x d hx hd
          · rw [List.getElem?_append_right (by omega)] at hx hd
            have : i = k := by
              rcases Nat.lt_or_ge (i - l.length) 1 with h4 | h4
              · omega
              · rw [List.getElem?_eq_none (by simpa using h4)] at hx; cases hx
            subst this
            simp [h1] at hx
            simp [h1'] at hd
            subst hx hd
            exact ⟨g1, g2⟩
      exact aux len (Nat.le_refl _)
    refine ⟨_, len, cap, l, ds, hcs, ⟨by rw [frCells_length, hll], fun h0 => ⟨a, rfl, ?_, ?_⟩⟩, ⟨by omega, fun i u d h1 h2 => (hat i u d h1 h2).1⟩, hl, by unfold maxLen at hm; omega⟩
    · have := (hat 0 _ _ (List.getElem?_eq_getElem (show 0 < l.length by omega)) (List.getElem?_eq_getElem (show 0 < ds.length by omega))).2 0 (by omega)
      have h1 := World.block_lt_of_cell? w _ (this.trans rfl)
      rw [add_block, add_block] at h1
      exact h1
    · intro j u hu
      have hjl : j < (frCells l).length := (List.getElem?_eq_some_iff.1 hu).1
      rw [frCells_length, hll] at hjl
      have hq : j / 2 < l.length := by omega
      have hg := frCells_get l (j / 2) (j % 2) _ (List.getElem?_eq_getElem hq) (by omega)
      rw [show j / 2 * 2 + j % 2 = j by omega, hu] at hg
      have := (hat (j / 2) _ _ (List.getElem?_eq_getElem hq) (List.getElem?_eq_getElem (show j / 2 < ds.length by omega))).2 (j % 2) (by omega)
      rw [add_add, show j / 2 * 2 + j % 2 = j by omega] at this
      rw [this, hg]
end

end Go.Proofs.YtedglcbeheeonaaDoor
