/-
  An Act that came in, and a slice of Acts that came in: what their cells hold.
-/
import Derived.Test.YtaafladmpdkfjaaOpen
import Derived.Test.YtaafladmpdkfjaaAct
import Derived.Deep.Slices
import Derived.Deep.Fields
import Derived.ChangeSame
namespace Go.Proofs.Ytaafladmpdkfjaa
open Go Go.RowKit Go.Deep Go.ChangeShapes Go.WideShapes
set_option linter.unusedVariables false

section
variable {H : Type} {enc : TypeId × Value → H} {P : Program} {w : World} {base : Nat} {spare : Nat → Bool} {held : Bool}

/-- Each field of a struct whose fields are of one cell each reads by itself. -/
theorem fields_read {t : TypeId} {fs : Array Field} {fuel : Nat} {cs : List Value} {x : DataW H × List MemPlace} (hs : P.underlying t = some (.struct fs)) (hone : oneCellFields P fs = true)
    (h : DataW.trod enc P w base spare held fuel t cs = some x) :
    cs.length = P.cellsOf t ∧ ∃ n, ∀ (j : Nat) (f : Field), fs[j]? = some f → ∃ y, DataW.trod enc P w base spare held n f.type ((cs.drop j).take 1) = some y := by
  obtain ⟨ys, n, _, _, hlen, hyl, hf⟩ := DataW.trod_struct hs h
  refine ⟨hlen, n, fun j f hj => ?_⟩
  obtain ⟨ho, hk⟩ := hone_of hone j f hj
  have hjl : j < fs.size := (Array.getElem?_eq_some_iff.1 hj).1
  have h1 := hf j f hj
  rw [ho, hk] at h1
  exact ⟨ys[j]'(by omega), h1.trans (List.getElem?_eq_getElem (by omega))⟩

theorem row_read {t e : TypeId} {k : IntKind} {fuel : Nat} {v : Value} {x : DataW H × List MemPlace} (ht : P.underlying t = some (.slice e)) (he : P.underlying e = some (.int k)) (hc : P.cellsOf e = 1)
    (h : DataW.trod enc P w base (fun _ => true) held fuel t [v] = some x) : ∃ a len cap zs, v = .slice a len cap ∧ IsRow k w a len cap zs := by
  rcases open_ints ht he hc h with ⟨hcs, _⟩ | ⟨a, len, cap, zs, hcs, _, hl, hm, hz, _, hcell, hw⟩
  · simp only [List.cons.injEq, and_true] at hcs
    exact ⟨none, 0, 0, [], hcs, .inl ⟨rfl, rfl, rfl, rfl⟩⟩
  · simp only [List.cons.injEq, and_true] at hcs
    exact ⟨_, len, cap, zs, hcs, .inr ⟨a, rfl, hl, hm, by simpa using hz, hcell, hw⟩⟩
end

/-- The numbers l as cells. -/
def us (l : List Nat) : List Value := l.map fun (n : Nat) => Value.int .u64 (n : Int)
theorem us_length (l : List Nat) : (us l).length = l.length := by simp [us]

theorem IsRow.rd64 {w : World} {a : Option Addr} {len cap : Nat} {zs : List Int} (h : IsRow .u64 w a len cap zs) :
    ∃ l : List Nat, Rd w w.heap.size 1 a len (us l) ∧ (∀ x ∈ l, (x : Int) ≤ 18446744073709551615) ∧ len ≤ cap ∧ cap ≤ 9223372036854775807 := by
  rcases h with ⟨rfl, rfl, rfl, rfl⟩ | ⟨x, rfl, hl, hm, hz, hc, hw⟩
  · exact ⟨[], Rd.zero, by simp, Nat.le_refl _, by omega⟩
  · have hmem : ∀ n ∈ zs, 0 ≤ n ∧ n ≤ 18446744073709551615 := fun n hn => bounds_u64 (hw n hn)
    refine ⟨(zs.take len).map Int.toNat, ⟨?_, fun h0 => ⟨x, rfl, ?_, ?_⟩⟩, ?_, hl, by unfold maxLen at hm; omega⟩
    · rw [us_length, List.length_map, List.length_take]; omega
    · have := World.block_lt_of_cell? w _ (hc 0 (by omega)); rw [add_block] at this; exact this
    · intro j u hu
      have hj : j < len := by
        rcases Nat.lt_or_ge j len with h1 | h1
        · exact h1
        · rw [List.getElem?_eq_none (by rw [us_length, List.length_map, List.length_take]; omega)] at hu; cases hu
      have hjz : j < zs.length := by omega
      rw [hc j hjz]
      simp only [us, List.map_map, List.getElem?_map, List.getElem?_take, hj, if_true, List.getElem?_eq_getElem hjz, Option.map_some, Option.some.injEq] at hu
      rw [List.getD_eq_getElem?_getD, List.getElem?_eq_getElem hjz]
      have hb := hmem zs[j] (List.getElem_mem hjz)
      rw [← hu]
      simp only [Option.getD_some, Function.comp_apply, Option.some.injEq, Value.int.injEq, true_and]
      omega
    · intro y hy
      obtain ⟨n, hn, rfl⟩ := List.mem_map.1 hy
      have := hmem n (List.mem_of_mem_take hn)
      omega

/-- What is known of an Act that came in. -/
structure ActOK (w : World) (a : ActV) (bl ll : List Nat) : Prop where
  b : Rd w w.heap.size 1 a.bA a.bn (bs bl)
  b8 : ∀ x ∈ bl, x < 256
  bc : a.bn ≤ a.bc ∧ a.bc ≤ 9223372036854775807
  l : Rd w w.heap.size 1 a.lA a.ln (us ll)
  l64 : ∀ x ∈ ll, (x : Int) ≤ 18446744073709551615
  lc : a.ln ≤ a.lc ∧ a.lc ≤ 9223372036854775807
  d : -9223372036854775808 ≤ a.d ∧ a.d ≤ 9223372036854775807
  v : (a.v : Int) ≤ 18446744073709551615
  k : -9223372036854775808 ≤ a.k ∧ a.k ≤ 9223372036854775807

section
variable {H : Type} {enc : TypeId × Value → H} {w : World} {base : Nat} {held : Bool}
theorem act_read {fuel : Nat} {cs : List Value} {x : DataW H × List MemPlace} (h : DataW.trod enc Try.prog w base (fun _ => true) held fuel 40 cs = some x) :
    ∃ (a : ActV) (bl ll : List Nat), cs = a.cells ∧ ActOK w a bl ll := by
  obtain ⟨hlen, n, hf⟩ := fields_read Try.underlying40 (by kernel_rfl) h
  have h5 : Try.prog.cellsOf 40 = 5 := by kernel_rfl
  rw [h5] at hlen
  match cs, hlen with
  | [c0, c1, c2, c3, c4], _ =>
    obtain ⟨y0, g0⟩ := hf 0 _ rfl
    obtain ⟨y1, g1⟩ := hf 1 _ rfl
    obtain ⟨y2, g2⟩ := hf 2 _ rfl
    obtain ⟨y3, g3⟩ := hf 3 _ rfl
    obtain ⟨y4, g4⟩ := hf 4 _ rfl
    obtain ⟨d, e0, _, w0⟩ := DataW.trod_int Try.underlying3 g0
    obtain ⟨v, e1, _, w1⟩ := DataW.trod_int Try.underlying22 g1
    obtain ⟨k, e2, _, w2⟩ := DataW.trod_int Try.underlying3 g2
    obtain ⟨bA, bn, bc, zb, e3, rb⟩ := row_read Try.underlying23 Try.underlying5 (by kernel_rfl) g3
    obtain ⟨lA, ln, lc, zl, e4, rl⟩ := row_read Try.underlying38 Try.underlying22 (by kernel_rfl) g4
    simp at e0 e1 e2
    subst e0 e1 e2 e3 e4
    obtain ⟨bl, r1, r2, r3⟩ := rb.rd
    obtain ⟨ll, s1, s2, s3⟩ := rl.rd64
    have hv := bounds_u64 w1
    obtain ⟨v, rfl⟩ : ∃ u : Nat, v = u := ⟨v.toNat, by omega⟩
    exact ⟨⟨d, v, k, bA, bn, bc, lA, ln, lc⟩, bl, ll, rfl, ⟨r1, r2, r3, s1, s2, s3, bounds_i64 w0, hv.2, bounds_i64 w2⟩⟩

theorem acts_read {fuel : Nat} {v : Value} {x : DataW H × List MemPlace} (h : DataW.trod enc Try.prog w base (fun _ => true) held fuel 34 [v] = some x) :
    ∃ (A : Option Addr) (n c : Nat) (l : List ActV), v = .slice A n c ∧ Rd w w.heap.size 5 A n (actCells l) ∧ l.length = n ∧ n ≤ c ∧ c ≤ 9223372036854775807 ∧ ∀ a ∈ l, ∃ bl ll, ActOK w a bl ll := by
  rcases open_slice Try.underlying34 h with ⟨hcs, _⟩ | ⟨a, len, cap, m, k, D, Pl, hcs, _, hl, hm, hmm, _, hi⟩
  · simp only [List.cons.injEq, and_true] at hcs
    exact ⟨none, 0, 0, [], hcs, Rd.zero, rfl, Nat.le_refl _, by omega, by simp⟩
  · simp only [List.cons.injEq, and_true] at hcs
    simp only [if_true] at hmm
    have h5 : Try.prog.cellsOf 40 = 5 := by kernel_rfl
    have each : ∀ i, i < len → ∃ (u : ActV) (bl ll : List Nat), ActOK w u bl ll ∧ ∀ j, j < 5 → w.cell? ((a.add (i * 5)).add j) = u.cells[j]? := by
      intro i hil
      obtain ⟨cs', hc, ht⟩ := hi i (by omega)
      rw [h5] at hc
      obtain ⟨u, bl, ll, rfl, hok⟩ := act_read ht
      exact ⟨u, bl, ll, hok, (World.cells?_some hc).2.2⟩
    obtain ⟨l, hll, hat⟩ : ∃ l : List ActV, l.length = len ∧ ∀ i (u : ActV), l[i]? = some u → (∃ bl ll, ActOK w u bl ll) ∧ ∀ j, j < 5 → w.cell? ((a.add (i * 5)).add j) = u.cells[j]? := by
      clear h hi hcs
      have aux : ∀ k, k ≤ len → ∃ l : List ActV, l.length = k ∧ ∀ i (u : ActV), l[i]? = some u → (∃ bl ll, ActOK w u bl ll) ∧ ∀ j, j < 5 → w.cell? ((a.add (i * 5)).add j) = u.cells[j]? := by
        intro k
        induction k with
        | zero => intro _; exact ⟨[], rfl, by simp⟩
        | succ k ih =>
          intro hk
          obtain ⟨l, h1, h2⟩ := ih (by omega)
          obtain ⟨u, bl, ll, g1, g2⟩ := each k (by omega)
          refine ⟨l ++ [u], by simp [h1], fun i x hx => ?_⟩
          rcases Nat.lt_or_ge i l.length with h3 | h3
          · rw [List.getElem?_append_left h3] at hx; exact h2 i x hx
          · rw [List.getElem?_append_right h3] at hx
            have : i = k := by
              rcases Nat.lt_or_ge (i - l.length) 1 with h4 | h4
              · omega
              · rw [List.getElem?_eq_none (by simpa using h4)] at hx; cases hx
            subst this
            simp [h1] at hx
            subst hx
            exact ⟨⟨bl, ll, g1⟩, g2⟩
      exact aux len (Nat.le_refl _)
    have hcl : ∀ l : List ActV, (actCells l).length = l.length * 5 := by
      intro l; induction l with
      | nil => rfl
      | cons x l ih => show (x.cells ++ actCells l).length = _; rw [List.length_append, ih]; simp [ActV.cells]; omega
    refine ⟨_, len, cap, l, hcs, ⟨by rw [hcl, hll], fun h0 => ⟨a, rfl, ?_, ?_⟩⟩, hll, hl, by unfold maxLen at hm; omega, ?_⟩
    · have := (hat 0 _ (List.getElem?_eq_getElem (show 0 < l.length by omega))).2 0 (by omega)
      have h1 := World.block_lt_of_cell? w _ (this.trans rfl)
      rw [add_block, add_block] at h1
      exact h1
    · intro j u hu
      have hjl : j < (actCells l).length := (List.getElem?_eq_some_iff.1 hu).1
      rw [hcl, hll] at hjl
      have hq : j / 5 < l.length := by omega
      have hg := actCells_get l (j / 5) (j % 5) _ (List.getElem?_eq_getElem hq) (by omega)
      rw [show j / 5 * 5 + j % 5 = j by omega, hu] at hg
      have := (hat (j / 5) _ (List.getElem?_eq_getElem hq)).2 (j % 5) (by omega)
      rw [add_add, show j / 5 * 5 + j % 5 = j by omega] at this
      rw [this, hg]
    · intro u hu
      obtain ⟨i, hil, rfl⟩ := List.mem_iff_getElem.1 hu
      exact (hat i _ (List.getElem?_eq_getElem hil)).1
end

end Go.Proofs.Ytaafladmpdkfjaa
