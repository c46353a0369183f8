/-
  Layer 13: arguments that came in: an edge, rows of edges, of numbers, of acts.
-/
import Derived.Test.YtopecdkkmbpnbaaGba
import Derived.ProofKit
import Derived.OpenShut
import Derived.ChangeOld
import Derived.Deep.Slices
import Derived.Deep.Fields
import Derived.ChangeSame
namespace Go.Proofs.Ytopecdkkmbpnbaa
open Go Go.RowKit Go.Deep Go.ChangeShapes Go.WideShapes
set_option linter.unusedVariables false

/-- A call of the statements: what is to be done, and a row of edges. -/
structure AcV where
  d : Int
  A : Option Addr
  n : Nat
  c : Nat
  L : List Ed
def AcV.cells (a : AcV) : List Value := [.int .i64 a.d, .slice a.A a.n a.c]
structure AcOK (w : World) (B : Nat) (a : AcV) : Prop where
  l : Rd w B 3 a.A a.n (ec a.L)
  ok : ∀ e ∈ a.L, EdOk e
  ln : a.n ≤ a.c ∧ a.c ≤ 9223372036854775807
  d : I64 a.d
theorem AcOK.below {w w' : World} {B : Nat} {a : AcV} (h : AcOK w B a) (hb : Below B w w') : AcOK w' B a := ⟨h.l.below hb, h.ok, h.ln, h.d⟩

section
variable {H : Type} {enc : TypeId × Value → H} {P : Program} {w : World} {base : Nat} {spare : Nat → Bool} {held : Bool}
/-- Each field of a struct whose fields are of one cell each reads by itself. -/
theorem fields_read {t : TypeId} {fs : Array Field} {fuel : Nat} {cs : List Value} {x : DataW H × List MemPlace} (hs : P.underlying t = some (.struct fs)) (hone : oneCellFields P fs = true)
    (h : DataW.trod enc P w base spare held fuel t cs = some x) :
    cs.length = P.cellsOf t ∧ ∃ n, ∀ (j : Nat) (f : Field), fs[j]? = some f → ∃ y, DataW.trod enc P w base spare held n f.type ((cs.drop j).take 1) = some y := by
  obtain ⟨ys, n, _, _, hlen, hyl, hf⟩ := DataW.trod_struct hs h
  refine ⟨hlen, n, fun j f hj => ?_⟩
  obtain ⟨ho, hk⟩ := hone_of hone j f hj
  have hjl : j < fs.size := (Array.getElem?_eq_some_iff.1 hj).1
  have h1 := hf j f hj
  rw [ho, hk] at h1
  exact ⟨ys[j]'(by omega), h1.trans (List.getElem?_eq_getElem (by omega))⟩
theorem ints_read {t e : TypeId} {fuel : Nat} {v : Value} {x : DataW H × List MemPlace} (ht : P.underlying t = some (.slice e)) (he : P.underlying e = some (.int .i64)) (hc : P.cellsOf e = 1)
    (h : DataW.trod enc P w base (fun _ => true) held fuel t [v] = some x) : ∃ A len cap l, v = .slice A len cap ∧ Rd w w.heap.size 1 A len (zc l) ∧ (∀ n ∈ l, I64 n) ∧ len ≤ cap ∧ cap ≤ 9223372036854775807 := by
  rcases open_ints ht he hc h with ⟨hcs, _⟩ | ⟨a, len, cap, zs, hcs, _, hl, hm, hz, _, hcell, hw⟩
  · simp only [List.cons.injEq, and_true] at hcs
    exact ⟨none, 0, 0, [], hcs, Rd.zero, by simp, Nat.le_refl _, by omega⟩
  · simp only [List.cons.injEq, and_true] at hcs
    have hz : zs.length = cap := by simpa using hz
    refine ⟨some a, len, cap, zs.take len, hcs, ⟨by rw [zc_length, List.length_take]; omega, fun h0 => ⟨a, rfl, ?_, fun j u hu => ?_⟩⟩, fun n hn => bounds_i64 (hw n (List.mem_of_mem_take hn)), hl, by unfold maxLen at hm; omega⟩
    · have := World.block_lt_of_cell? w _ (hcell 0 (by omega))
      rwa [add_block] at this
    · have hj : j < len := by
        rcases Nat.lt_or_ge j len with h1 | h1
        · exact h1
        · rw [List.getElem?_eq_none (by rw [zc_length, List.length_take]; omega)] at hu; cases hu
      rw [hcell j (by omega), List.getD_eq_getElem?_getD, List.getElem?_eq_getElem (show j < zs.length by omega)]
      rw [← hu]
      simp [zc, hj, show j < zs.length by omega]
end

section
variable {H : Type} {enc : TypeId × Value → H} {w : World} {base : Nat} {held : Bool}
theorem edge_read {fuel : Nat} {cs : List Value} {x : DataW H × List MemPlace} (h : DataW.trod enc Try.prog w base (fun _ => true) held fuel 39 cs = some x) : ∃ q : Ed, cs = eC q ∧ EdOk q := by
  obtain ⟨hlen, n, hf⟩ := fields_read Try.underlying39 (by kernel_rfl) h
  have h2 : Try.prog.cellsOf 39 = 3 := by kernel_rfl
  rw [h2] at hlen
  match cs, hlen with
  | [c0, c1, c2], _ =>
    obtain ⟨y0, g0⟩ := hf 0 _ rfl
    obtain ⟨y1, g1⟩ := hf 1 _ rfl
    obtain ⟨y2, g2⟩ := hf 2 _ rfl
    obtain ⟨d0, e0, _, w0⟩ := DataW.trod_int Try.underlying3 g0
    obtain ⟨d1, e1, _, w1⟩ := DataW.trod_int Try.underlying3 g1
    obtain ⟨d2, e2, _, w2⟩ := DataW.trod_int Try.underlying3 g2
    simp at e0 e1 e2
    subst e0 e1 e2
    exact ⟨(d0, d1, d2), rfl, bounds_i64 w0, bounds_i64 w1, bounds_i64 w2⟩

theorem edges_read {fuel : Nat} {v : Value} {x : DataW H × List MemPlace} (h : DataW.trod enc Try.prog w base (fun _ => true) held fuel 34 [v] = some x) :
    ∃ (A : Option Addr) (n c : Nat) (l : List Ed), v = .slice A n c ∧ Rd w w.heap.size 3 A n (ec l) ∧ (∀ e ∈ l, EdOk e) ∧ n ≤ c ∧ c ≤ 9223372036854775807 := by
  rcases open_slice Try.underlying34 h with ⟨hcs, _⟩ | ⟨a, len, cap, m, k, D, Pl, hcs, _, hl, hm, hmm, _, hi⟩
  · simp only [List.cons.injEq, and_true] at hcs
    exact ⟨none, 0, 0, [], hcs, Rd.zero, (by intro q hq; cases hq), Nat.le_refl _, by omega⟩
  · simp only [List.cons.injEq, and_true] at hcs
    simp only [if_true] at hmm
    have h2 : Try.prog.cellsOf 39 = 3 := by kernel_rfl
    have each : ∀ i, i < len → ∃ q : Ed, EdOk q ∧ ∀ j, j < 3 → w.cell? ((a.add (i * 3)).add j) = (eC q)[j]? := by
      intro i hil
      obtain ⟨cs', hc, ht⟩ := hi i (by omega)
      rw [h2] at hc
      obtain ⟨q, rfl, hok⟩ := edge_read ht
      exact ⟨q, hok, (World.cells?_some hc).2.2⟩
    obtain ⟨l, hll, hat⟩ : ∃ l : List Ed, l.length = len ∧ ∀ i (u : Ed), l[i]? = some u → EdOk u ∧ ∀ j, j < 3 → w.cell? ((a.add (i * 3)).add j) = (eC u)[j]? := by
      clear h hi hcs
      have aux : ∀ k, k ≤ len → ∃ l : List Ed, l.length = k ∧ ∀ i (u : Ed), l[i]? = some u → EdOk u ∧ ∀ j, j < 3 → w.cell? ((a.add (i * 3)).add j) = (eC u)[j]? := by
        intro k
        induction k with
        | zero => intro _; exact ⟨[], rfl, by simp⟩
        | succ k ih =>
          intro hk
          obtain ⟨l, h1, h2⟩ := ih (by omega)
          obtain ⟨u, g1, g2⟩ := each k (by omega)
          refine ⟨l ++ [u], by simp [h1], fun i x hx => ?_⟩
          rcases Nat.lt_or_ge i k with h3 | h3
          · rw [List.getElem?_append_left (by omega)] at hx; exact h2 i x hx
          · rw [List.getElem?_append_right (by omega)] at hx
            have : i = k := by
              rcases Nat.lt_or_ge (i - l.length) 1 with h4 | h4
              · omega
              · rw [List.getElem?_eq_none (by simpa using h4)] at hx; cases hx
            subst this
            simp [h1] at hx
            subst hx
            exact ⟨g1, g2⟩
      exact aux len (Nat.le_refl _)
    refine ⟨_, len, cap, l, hcs, ⟨by rw [ec_length, hll], fun h0 => ⟨a, rfl, ?_, ?_⟩⟩, fun q hq => ?_, hl, by unfold maxLen at hm; omega⟩
    · have := (hat 0 _ (List.getElem?_eq_getElem (show 0 < l.length by omega))).2 0 (by omega)
      have h1 := World.block_lt_of_cell? w _ (this.trans rfl)
      rw [add_block, add_block] at h1
      exact h1
    · intro j u hu
      have hj : j < len * 3 := by
        rcases Nat.lt_or_ge j (len * 3) with h1 | h1
        · exact h1
        · rw [List.getElem?_eq_none (by rw [ec_length]; omega)] at hu; cases hu
      have hd : j / 3 < l.length := by omega
      have hx := List.getElem?_eq_getElem hd
      have g := (hat (j / 3) _ hx).2 (j % 3) (by omega)
      have g2 := ec_get l (j / 3) (j % 3) _ hx (by omega)
      rw [show j / 3 * 3 + j % 3 = j by omega, hu] at g2
      rw [← g2, add_add, show j / 3 * 3 + j % 3 = j by omega] at g
      exact g
    · obtain ⟨i, hi2⟩ := List.getElem?_of_mem hq
      exact (hat i q hi2).1

def acC (l : List AcV) : List Value := l.flatMap AcV.cells
theorem acC_length (l : List AcV) : (acC l).length = l.length * 2 := by
  induction l with
  | nil => rfl
  | cons x l ih => show (x.cells ++ acC l).length = _; rw [List.length_append, ih]; simp [AcV.cells]; omega
theorem acC_get : ∀ (l : List AcV) (i j : Nat) (a : AcV), l[i]? = some a → j < 2 → (acC l)[i * 2 + j]? = (a.cells)[j]? := by
  intro l
  induction l with
  | nil => intro i j a h; simp at h
  | cons x l ih =>
    intro i j a h hj
    have e : acC (x :: l) = x.cells ++ acC l := rfl
    have hx : x.cells.length = 2 := rfl
    cases i with
    | zero =>
      simp at h
      subst h
      rw [e, Nat.zero_mul, Nat.zero_add, List.getElem?_append_left (by omega)]
    | succ i =>
      rw [e, List.getElem?_append_right (by omega), hx, show (i + 1) * 2 + j - 2 = i * 2 + j by omega]
      exact ih i j a (by simpa using h) hj
theorem ac_read {fuel : Nat} {cs : List Value} {x : DataW H × List MemPlace} (h : DataW.trod enc Try.prog w base (fun _ => true) held fuel 36 cs = some x) :
    ∃ a : AcV, cs = a.cells ∧ AcOK w w.heap.size a := by
  obtain ⟨hlen, n, hf⟩ := fields_read Try.underlying36 (by kernel_rfl) h
  have h6 : Try.prog.cellsOf 36 = 2 := by kernel_rfl
  rw [h6] at hlen
  match cs, hlen with
  | [c0, c1], _ =>
    obtain ⟨y0, g0⟩ := hf 0 _ rfl
    obtain ⟨y1, g1⟩ := hf 1 _ rfl
    obtain ⟨d, e0, _, w0⟩ := DataW.trod_int Try.underlying3 g0
    simp at e0
    subst e0
    obtain ⟨A, n1, k1, l, e1, r1, r2, r3, r4⟩ := edges_read g1
    subst e1
    exact ⟨⟨d, A, n1, k1, l⟩, rfl, ⟨r1, r2, ⟨r3, r4⟩, bounds_i64 w0⟩⟩
theorem acs_read {fuel : Nat} {v : Value} {x : DataW H × List MemPlace} (h : DataW.trod enc Try.prog w base (fun _ => true) held fuel 22 [v] = some x) :
    ∃ (A : Option Addr) (n c : Nat) (l : List AcV), v = .slice A n c ∧ Rd w w.heap.size 2 A n (acC l) ∧ (∀ e ∈ l, AcOK w w.heap.size e) ∧ n ≤ c ∧ c ≤ 9223372036854775807 := by
  rcases open_slice Try.underlying22 h with ⟨hcs, _⟩ | ⟨a, len, cap, m, k, D, Pl, hcs, _, hl, hm, hmm, _, hi⟩
  · simp only [List.cons.injEq, and_true] at hcs
    exact ⟨none, 0, 0, [], hcs, Rd.zero, (by intro q hq; cases hq), Nat.le_refl _, by omega⟩
  · simp only [List.cons.injEq, and_true] at hcs
    simp only [if_true] at hmm
    have h2 : Try.prog.cellsOf 36 = 2 := by kernel_rfl
    have each : ∀ i, i < len → ∃ q : AcV, AcOK w w.heap.size q ∧ ∀ j, j < 2 → w.cell? ((a.add (i * 2)).add j) = (AcV.cells q)[j]? := by
      intro i hil
      obtain ⟨cs', hc, ht⟩ := hi i (by omega)
      rw [h2] at hc
      obtain ⟨q, rfl, hok⟩ := ac_read ht
      exact ⟨q, hok, (World.cells?_some hc).2.2⟩
    obtain ⟨l, hll, hat⟩ : ∃ l : List AcV, l.length = len ∧ ∀ i (u : AcV), l[i]? = some u → AcOK w w.heap.size u ∧ ∀ j, j < 2 → w.cell? ((a.add (i * 2)).add j) = (AcV.cells u)[j]? := by
      clear h hi hcs
      have aux : ∀ k, k ≤ len → ∃ l : List AcV, l.length = k ∧ ∀ i (u : AcV), l[i]? = some u → AcOK w w.heap.size u ∧ ∀ j, j < 2 → w.cell? ((a.add (i * 2)).add j) = (AcV.cells u)[j]? := by
        intro k
        induction k with
        | zero => intro _; exact ⟨[], rfl, by simp⟩
        | succ k ih =>
          intro hk
          obtain ⟨l, h1, h2⟩ := ih (by omega)
          obtain ⟨u, g1, g2⟩ := each k (by omega)
          refine ⟨l ++ [u], by simp [h1], fun i x hx => ?_⟩
          rcases Nat.lt_or_ge i k with h3 | h3
          · rw [List.getElem?_append_left (by omega)] at hx; exact h2 i x hx
          · rw [List.getElem?_append_right (by omega)] at hx
            have : i = k := by
              rcases Nat.lt_or_ge (i - l.length) 1 with h4 | h4
              · omega
              · rw [List.getElem?_eq_none (by simpa using h4)] at hx; cases hx
            subst this
            simp [h1] at hx
            subst hx
            exact ⟨g1, g2⟩
      exact aux len (Nat.le_refl _)
    refine ⟨_, len, cap, l, hcs, ⟨by rw [acC_length, hll], fun h0 => ⟨a, rfl, ?_, ?_⟩⟩, fun q hq => ?_, hl, by unfold maxLen at hm; omega⟩
    · have := (hat 0 _ (List.getElem?_eq_getElem (show 0 < l.length by omega))).2 0 (by omega)
      have h1 := World.block_lt_of_cell? w _ (this.trans rfl)
      rw [add_block, add_block] at h1
      exact h1
    · intro j u hu
      have hj : j < len * 2 := by
        rcases Nat.lt_or_ge j (len * 2) with h1 | h1
        · exact h1
        · rw [List.getElem?_eq_none (by rw [acC_length]; omega)] at hu; cases hu
      have hd : j / 2 < l.length := by omega
      have hx := List.getElem?_eq_getElem hd
      have g := (hat (j / 2) _ hx).2 (j % 2) (by omega)
      have g2 := acC_get l (j / 2) (j % 2) _ hx (by omega)
      rw [show j / 2 * 2 + j % 2 = j by omega, hu] at g2
      rw [← g2, add_add, show j / 2 * 2 + j % 2 = j by omega] at g
      exact g
    · obtain ⟨i, hi2⟩ := List.getElem?_of_mem hq
      exact (hat i q hi2).1

end

end Go.Proofs.Ytopecdkkmbpnbaa
