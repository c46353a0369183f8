/-
  Layer 8: a row of acts that came in: what its cells hold.
-/
import Derived.Test.YtiembenkdldklaaDoorYac
import Derived.Test.YtiembenkdldklaaDoorYop
import Derived.Deep.Slices
import Derived.Deep.Fields
import Derived.ChangeSame
namespace Go.Proofs.YtiembenkdldklaaDoor
open Go Go.RowKit Go.Deep Go.ChangeShapes Go.WideShapes
set_option linter.unusedVariables false

section
variable {H : Type} {enc : TypeId × Value → H} {P : Program} {w : World} {base : Nat} {spare : Nat → Bool} {held : Bool}

/-- Each field of a struct whose fields are of one cell each reads by itself. -/
theorem fields_read {t : TypeId} {fs : Array Field} {fuel : Nat} {cs : List Value} {x : DataW H × List MemPlace} (hs : P.underlying t = some (.struct fs)) (hone : oneCellFields P fs = true)
    (h : DataW.trod enc P w base spare held fuel t cs = some x) :
    cs.length = P.cellsOf t ∧ ∃ n, ∀ (j : Nat) (f : Field), fs[j]? = some f → ∃ y, DataW.trod enc P w base spare held n f.type ((cs.drop j).take 1) = some y := by
  obtain ⟨ys, n, _, _, hlen, hyl, hf⟩ := DataW.trod_struct hs h
  refine ⟨hlen, n, fun j f hj => ?_⟩
  obtain ⟨ho, hk⟩ := hone_of hone j f hj
  have hjl : j < fs.size := (Array.getElem?_eq_some_iff.1 hj).1
  have h1 := hf j f hj
  rw [ho, hk] at h1
  exact ⟨ys[j]'(by omega), h1.trans (List.getElem?_eq_getElem (by omega))⟩

theorem row_read {t e : TypeId} {k : IntKind} {fuel : Nat} {v : Value} {x : DataW H × List MemPlace} (ht : P.underlying t = some (.slice e)) (he : P.underlying e = some (.int k)) (hc : P.cellsOf e = 1)
    (h : DataW.trod enc P w base (fun _ => true) held fuel t [v] = some x) : ∃ a len cap zs, v = .slice a len cap ∧ IsRow k w a len cap zs := by
  rcases open_ints ht he hc h with ⟨hcs, _⟩ | ⟨a, len, cap, zs, hcs, _, hl, hm, hz, _, hcell, hw⟩
  · simp only [List.cons.injEq, and_true] at hcs
    exact ⟨none, 0, 0, [], hcs, .inl ⟨rfl, rfl, rfl, rfl⟩⟩
  · simp only [List.cons.injEq, and_true] at hcs
    exact ⟨_, len, cap, zs, hcs, .inr ⟨a, rfl, hl, hm, by simpa using hz, hcell, hw⟩⟩
end

section
variable {H : Type} {enc : TypeId × Value → H} {w : World} {base : Nat} {held : Bool}
theorem ac_read {fuel : Nat} {cs : List Value} {x : DataW H × List MemPlace} (h : DataW.trod enc Tryd.prog w base (fun _ => true) held fuel 39 cs = some x) :
    ∃ a : AcV, cs = a.cells ∧ AcOK w w.heap.size a := by
  obtain ⟨hlen, n, hf⟩ := fields_read Tryd.underlying39 (by kernel_rfl) h
  have h6 : Tryd.prog.cellsOf 39 = 6 := by kernel_rfl
  rw [h6] at hlen
  match cs, hlen with
  | [c0, c1, c2, c3, c4, c5], _ =>
    obtain ⟨y0, g0⟩ := hf 0 _ rfl
    obtain ⟨y1, g1⟩ := hf 1 _ rfl
    obtain ⟨y2, g2⟩ := hf 2 _ rfl
    obtain ⟨y3, g3⟩ := hf 3 _ rfl
    obtain ⟨y4, g4⟩ := hf 4 _ rfl
    obtain ⟨y5, g5⟩ := hf 5 _ rfl
    obtain ⟨d, e0, _, w0⟩ := DataW.trod_int Tryd.underlying3 g0
    obtain ⟨i, e1, _, w1⟩ := DataW.trod_int Tryd.underlying3 g1
    obtain ⟨z, e2, _, w2⟩ := DataW.trod_int Tryd.underlying3 g2
    obtain ⟨A, n1, k1, zl, e3, rl⟩ := row_read Tryd.underlying22 Tryd.underlying3 (by kernel_rfl) g3
    obtain ⟨A2, n2, k2, zm, e4, rm⟩ := row_read Tryd.underlying22 Tryd.underlying3 (by kernel_rfl) g4
    obtain ⟨own, e5, _⟩ := DataW.trod_bool Tryd.underlying4 g5
    simp at e0 e1 e2 e3 e4 e5
    subst e0 e1 e2 e3 e4 e5
    obtain ⟨L, r1, r2, r3, r4, r5⟩ := rl.rd
    obtain ⟨M, s1, s2, s3, s4, s5⟩ := rm.rd
    exact ⟨⟨d, i, z, A, n1, k1, A2, n2, k2, own, L, M⟩, rfl, ⟨r1, s1, ⟨r3, r4⟩, ⟨s3, s4⟩, bounds_i64 w0, bounds_i64 w1, bounds_i64 w2⟩⟩

theorem acs_read {fuel : Nat} {v : Value} {x : DataW H × List MemPlace} (h : DataW.trod enc Tryd.prog w base (fun _ => true) held fuel 23 [v] = some x) :
    ∃ (A : Option Addr) (n c : Nat) (l : List AcV), v = .slice A n c ∧ Rd w w.heap.size 6 A n (acCells l) ∧ (∀ (i : Nat) (a : AcV), l[i]? = some a → AcOK w w.heap.size a) ∧ n ≤ c ∧ c ≤ 9223372036854775807 := by
  rcases open_slice Tryd.underlying23 h with ⟨hcs, _⟩ | ⟨a, len, cap, m, k, D, Pl, hcs, _, hl, hm, hmm, _, hi⟩
  · simp only [List.cons.injEq, and_true] at hcs
    exact ⟨none, 0, 0, [], hcs, Rd.zero, by simp, Nat.le_refl _, by omega⟩
  · simp only [List.cons.injEq, and_true] at hcs
    simp only [if_true] at hmm
    have h2 : Tryd.prog.cellsOf 39 = 6 := by kernel_rfl
    have each : ∀ i, i < len → ∃ u : AcV, AcOK w w.heap.size u ∧ ∀ j, j < 6 → w.cell? ((a.add (i * 6)).add j) = u.cells[j]? := by
      intro i hil
      obtain ⟨cs', hc, ht⟩ := hi i (by omega)
      rw [h2] at hc
      obtain ⟨u, rfl, hok⟩ := ac_read ht
      exact ⟨u, hok, (World.cells?_some hc).2.2⟩
    obtain ⟨l, hll, hat⟩ : ∃ l : List AcV, l.length = len ∧ ∀ i (u : AcV), l[i]? = some u → AcOK w w.heap.size u ∧ ∀ j, j < 6 → w.cell? ((a.add (i * 6)).add j) = u.cells[j]? := by
      clear h hi hcs
      have aux : ∀ k, k ≤ len → ∃ l : List AcV, l.length = k ∧ ∀ i (u : AcV), l[i]? = some u → AcOK w w.heap.size u ∧ ∀ j, j < 6 → w.cell? ((a.add (i * 6)).add j) = u.cells[j]? := by
        intro k
        induction k with
        | zero => intro _; exact ⟨[], rfl, by simp⟩
        | succ k ih =>
          intro hk
          obtain ⟨l, h1, h2⟩ := ih (by omega)
          obtain ⟨u, g1, g2⟩ := each k (by omega)
          refine ⟨l ++ [u], by simp [h1], fun i x hx => ?_⟩
          rcases Nat.lt_or_ge i k with h3 | h3
          · rw [List.getElem?_append_left (by omega)] at hx; exact h2 i x hx
          · rw [List.getElem?_append_right (by omega)] at hx
            have : i = k := by
              rcases Nat.lt_or_ge (i - l.length) 1 with h4 | h4
              · omega
              · rw [List.getElem?_eq_none (by simpa using h4)] at hx; cases hx
            subst this
            simp [h1] at hx
            subst hx
            exact ⟨g1, g2⟩
      exact aux len (Nat.le_refl _)
    refine ⟨_, len, cap, l, hcs, ⟨by rw [acCells_length, hll], fun h0 => ⟨a, rfl, ?_, ?_⟩⟩, fun i u h1 => (hat i u h1).1, hl, by unfold maxLen at hm; omega⟩
    · have := (hat 0 _ (List.getElem?_eq_getElem (show 0 < l.length by omega))).2 0 (by omega)
      have h1 := World.block_lt_of_cell? w _ (this.trans rfl)
      rw [add_block, add_block] at h1
      exact h1
    · intro j u hu
      have hjl : j < (acCells l).length := (List.getElem?_eq_some_iff.1 hu).1
      rw [acCells_length, hll] at hjl
      have hq : j / 6 < l.length := by omega
      have hg := acCells_get l (j / 6) (j % 6) _ (List.getElem?_eq_getElem hq) (by omega)
      rw [show j / 6 * 6 + j % 6 = j by omega, hu] at hg
      have := (hat (j / 6) _ (List.getElem?_eq_getElem hq)).2 (j % 6) (by omega)
      rw [add_add, show j / 6 * 6 + j % 6 = j by omega] at this
      rw [this, hg]
end

end Go.Proofs.YtiembenkdldklaaDoor
