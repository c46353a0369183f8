/-
  Layer 7: arguments that came in: numbers, pairs, rows of names, rows of pairs.
-/
import Derived.Test.YtidlpiamiglppaaIrh
import Derived.ProofKit
import Derived.OpenShut
import Derived.ChangeOld
import Derived.Deep.Matrix
import Derived.Deep.Slices
import Derived.Deep.Fields
import Derived.ChangeSame
namespace Go.Proofs.Ytidlpiamiglppaa
open Go Go.RowKit Go.Deep Go.ChangeShapes Go.WideShapes
set_option linter.unusedVariables false

section
variable {H : Type} {enc : TypeId × Value → H} {P : Program} {w : World} {base : Nat} {spare : Nat → Bool} {held : Bool}

theorem num_read {t : TypeId} {fuel : Nat} {n : Int} {y : DataW H × List MemPlace} (ht : P.underlying t = some (.int .u64)) (h : DataW.trod enc P w base spare held fuel t [.int .u64 n] = some y) : ∃ x : Nat, x < 18446744073709551616 ∧ n = (x : Int) := by
  obtain ⟨d, e, _, w0⟩ := DataW.trod_int ht h
  simp at e
  subst e
  have := bounds_u64 w0
  exact ⟨n.toNat, by omega, by omega⟩

/-- Each field of a struct whose fields are of one cell each reads by itself. -/
theorem fields_read {t : TypeId} {fs : Array Field} {fuel : Nat} {cs : List Value} {x : DataW H × List MemPlace} (hs : P.underlying t = some (.struct fs)) (hone : oneCellFields P fs = true)
    (h : DataW.trod enc P w base spare held fuel t cs = some x) :
    cs.length = P.cellsOf t ∧ ∃ n, ∀ (j : Nat) (f : Field), fs[j]? = some f → ∃ y, DataW.trod enc P w base spare held n f.type ((cs.drop j).take 1) = some y := by
  obtain ⟨ys, n, _, _, hlen, hyl, hf⟩ := DataW.trod_struct hs h
  refine ⟨hlen, n, fun j f hj => ?_⟩
  obtain ⟨ho, hk⟩ := hone_of hone j f hj
  have hjl : j < fs.size := (Array.getElem?_eq_some_iff.1 hj).1
  have h1 := hf j f hj
  rw [ho, hk] at h1
  exact ⟨ys[j]'(by omega), h1.trans (List.getElem?_eq_getElem (by omega))⟩

/-- A row of numbers as names. -/
def nmsOf (zs : List Int) : List PP := zs.map fun z => (z.toNat, 0)
theorem nmsOf_zs (zs : List Int) : Zs (nmsOf zs) := by
  intro q hq
  simp only [nmsOf, List.mem_map] at hq
  obtain ⟨z, _, rfl⟩ := hq
  rfl
theorem nmsOf_us {zs : List Int} (h : ∀ n ∈ zs, (Lit.int .u64 n).wf = true) : Us (nmsOf zs) := by
  intro q hq
  simp only [nmsOf, List.mem_map] at hq
  obtain ⟨z, hz, rfl⟩ := hq
  have := bounds_u64 (h z hz)
  exact ⟨by show z.toNat < _; omega, by show (0 : Nat) < _; omega⟩
theorem nmsOf_uc {zs : List Int} (h : ∀ n ∈ zs, (Lit.int .u64 n).wf = true) : uc (nmsOf zs) = zs.map (Value.int .u64) := by
  unfold uc nmsOf
  rw [List.map_map]
  apply List.map_congr_left
  intro z hz
  have := bounds_u64 (h z hz)
  simp only [Function.comp_apply, Value.int.injEq, true_and]
  omega

theorem nms_rd {A : Option Addr} {n c : Nat} {Z : List Int} (hZ : Z.length = c) (hn : n ≤ c) (hA : A = none → c = 0) (hw : ∀ x ∈ Z, (Lit.int .u64 x).wf = true) (hc : ∀ a', A = some a' → ∀ j, j < c → w.cell? (a'.add j) = some (.int .u64 (Z.getD j 0))) :
    Rd w w.heap.size 1 A n (uc (nmsOf (Z.take n))) := by
  have hwt : ∀ x ∈ Z.take n, (Lit.int .u64 x).wf = true := fun x hx => hw x (List.mem_of_mem_take hx)
  refine ⟨by rw [uc_length]; simp [nmsOf]; omega, fun h0 => ?_⟩
  cases hAe : A with
  | none => have := hA hAe; omega
  | some a' =>
    have hlt := World.block_lt_of_cell? w _ (hc a' hAe 0 (by omega))
    rw [add_block] at hlt
    refine ⟨a', rfl, hlt, fun j u hu => ?_⟩
    rw [nmsOf_uc hwt, List.getElem?_map, List.getElem?_take] at hu
    split at hu
    · rename_i hj
      rw [hc a' hAe j (by omega), List.getD_eq_getElem?_getD]
      rw [List.getElem?_eq_getElem (show j < Z.length by omega)] at hu ⊢
      simpa using hu
    · cases hu

theorem nws_read {t e q : TypeId} {fuel : Nat} {v : Value} {x : DataW H × List MemPlace} (ht : P.underlying t = some (.slice e)) (he : P.underlying e = some (.slice q)) (hq : P.underlying q = some (.int .u64))
    (ce : P.cellsOf e = 1) (cq : P.cellsOf q = 1) (h : DataW.trod enc P w base (fun _ => true) held fuel t [v] = some x) :
    ∃ A n c vs ls, v = .slice A n c ∧ Rd w w.heap.size 1 A n vs ∧ Nws w w.heap.size vs ls ∧ n ≤ c ∧ c ≤ 9223372036854775807 := by
  rcases open_int_rows ht he hq ce cq h with ⟨hcs, _⟩ | ⟨a, len, cap, A, L, C, Z, hcs, _, hl, hm, _, hrow⟩
  · simp only [List.cons.injEq, and_true] at hcs
    exact ⟨none, 0, 0, [], [], hcs, Rd.zero, Nws.nil _ _, Nat.le_refl _, by omega⟩
  · simp only [List.cons.injEq, and_true] at hcs
    refine ⟨some a, len, cap, (List.range len).map fun r => .slice (A r) (L r) (C r), (List.range len).map fun r => nmsOf ((Z r).take (L r)), hcs, ⟨by simp, fun h0 => ⟨a, rfl, ?_, fun j u hu => ?_⟩⟩, ⟨by simp, fun j hj => ?_⟩, hl, by unfold maxLen at hm; omega⟩
    · have := World.block_lt_of_cell? w _ (hrow 0 (by omega)).1
      rw [add_block] at this
      exact this
    · have hj : j < len := by
        rcases Nat.lt_or_ge j len with h1 | h1
        · exact h1
        · rw [List.getElem?_eq_none (by simp; omega)] at hu; cases hu
      rw [List.getElem?_map, List.getElem?_range hj] at hu
      simp only [Option.map_some, Option.some.injEq] at hu
      rw [← hu]
      exact (hrow j (by omega)).1
    · have hj' : j < len := by simpa using hj
      obtain ⟨_, h1, h2, h3, h4, h5, h6⟩ := hrow j (by omega)
      have e : ((List.range len).map fun r => nmsOf ((Z r).take (L r))).getD j [] = nmsOf ((Z j).take (L j)) := by
        rw [List.getD_eq_getElem?_getD, List.getElem?_map, List.getElem?_range hj']; rfl
      rw [e]
      exact ⟨A j, L j, C j, by rw [List.getElem?_map, List.getElem?_range hj']; rfl, nms_rd h3 h1 h5 h4 (fun a' ha j' hj' => (h6 a' ha).2 j' hj'), ⟨nmsOf_us fun x hx => h4 x (List.mem_of_mem_take hx), nmsOf_zs _⟩, h1, by unfold maxLen at h2; omega⟩
end

section
variable {H : Type} {enc : TypeId × Value → H} {w : World} {base : Nat} {held : Bool}
theorem pair_read {fuel : Nat} {cs : List Value} {x : DataW H × List MemPlace} (h : DataW.trod enc Try.prog w base (fun _ => true) held fuel 59 cs = some x) : ∃ q : PP, cs = pcell q ∧ U64 q := by
  obtain ⟨hlen, n, hf⟩ := fields_read Try.underlying59 (by kernel_rfl) h
  have h2 : Try.prog.cellsOf 59 = 2 := by kernel_rfl
  rw [h2] at hlen
  match cs, hlen with
  | [c0, c1], _ =>
    obtain ⟨y0, g0⟩ := hf 0 _ rfl
    obtain ⟨y1, g1⟩ := hf 1 _ rfl
    obtain ⟨d, e0, _, w0⟩ := DataW.trod_int Try.underlying23 g0
    obtain ⟨d', e1, _, w1⟩ := DataW.trod_int Try.underlying23 g1
    simp at e0 e1
    subst e0 e1
    have hv := bounds_u64 w0
    have hv' := bounds_u64 w1
    refine ⟨(d.toNat, d'.toNat), ?_, ?_, ?_⟩
    · simp only [pcell, List.cons.injEq, Value.int.injEq, true_and, and_true]
      exact ⟨by omega, by omega⟩
    · show d.toNat < _; omega
    · show d'.toNat < _; omega

theorem pairs_read {fuel : Nat} {v : Value} {x : DataW H × List MemPlace} (h : DataW.trod enc Try.prog w base (fun _ => true) held fuel 58 [v] = some x) :
    ∃ (A : Option Addr) (n c : Nat) (l : List PP), v = .slice A n c ∧ Rd w w.heap.size 2 A n (pc l) ∧ Us l ∧ n ≤ c ∧ c ≤ 9223372036854775807 := by
  rcases open_slice Try.underlying58 h with ⟨hcs, _⟩ | ⟨a, len, cap, m, k, D, Pl, hcs, _, hl, hm, hmm, _, hi⟩
  · simp only [List.cons.injEq, and_true] at hcs
    exact ⟨none, 0, 0, [], hcs, Rd.zero, (by intro q hq; cases hq), Nat.le_refl _, by omega⟩
  · simp only [List.cons.injEq, and_true] at hcs
    simp only [if_true] at hmm
    have h2 : Try.prog.cellsOf 59 = 2 := by kernel_rfl
    have each : ∀ i, i < len → ∃ q : PP, U64 q ∧ ∀ j, j < 2 → w.cell? ((a.add (i * 2)).add j) = (pcell q)[j]? := by
      intro i hil
      obtain ⟨cs', hc, ht⟩ := hi i (by omega)
      rw [h2] at hc
      obtain ⟨q, rfl, hok⟩ := pair_read ht
      exact ⟨q, hok, (World.cells?_some hc).2.2⟩
    obtain ⟨l, hll, hat⟩ : ∃ l : List PP, l.length = len ∧ ∀ i (u : PP), l[i]? = some u → U64 u ∧ ∀ j, j < 2 → w.cell? ((a.add (i * 2)).add j) = (pcell u)[j]? := by
      clear h hi hcs
      have aux : ∀ k, k ≤ len → ∃ l : List PP, l.length = k ∧ ∀ i (u : PP), l[i]? = some u → U64 u ∧ ∀ j, j < 2 → w.cell? ((a.add (i * 2)).add j) = (pcell u)[j]? := by
        intro k
        induction k with
        | zero => intro _; exact ⟨[], rfl, by simp⟩
        | succ k ih =>
          intro hk
          obtain ⟨l, h1, h2⟩ := ih (by omega)
          obtain ⟨u, g1, g2⟩ := each k (by omega)
          refine ⟨l ++ [u], by simp [h1], fun i x hx => ?_⟩
          rcases Nat.lt_or_ge i k with h3 | h3
          · rw [List.getElem?_append_left (by omega)] at hx; exact h2 i x hx
          · rw [List.getElem?_append_right (by omega)] at hx
            have : i = k := by
              rcases Nat.lt_or_ge (i - l.length) 1 with h4 | h4
              · omega
              · rw [List.getElem?_eq_none (by simpa using h4)] at hx; cases hx
            subst this
            simp [h1] at hx
            subst hx
            exact ⟨g1, g2⟩
      exact aux len (Nat.le_refl _)
    refine ⟨_, len, cap, l, hcs, ⟨by rw [pc_length, hll], fun h0 => ⟨a, rfl, ?_, ?_⟩⟩, fun q hq => ?_, hl, by unfold maxLen at hm; omega⟩
    · have := (hat 0 _ (List.getElem?_eq_getElem (show 0 < l.length by omega))).2 0 (by omega)
      have h1 := World.block_lt_of_cell? w _ (this.trans rfl)
      rw [add_block, add_block] at h1
      exact h1
    · intro j u hu
      have hj : j < len * 2 := by
        rcases Nat.lt_or_ge j (len * 2) with h1 | h1
        · exact h1
        · rw [List.getElem?_eq_none (by rw [pc_length]; omega)] at hu; cases hu
      have hd : j / 2 < l.length := by omega
      have hx := List.getElem?_eq_getElem hd
      have g := (hat (j / 2) _ hx).2 (j % 2) (by omega)
      have g2 := pc_get l (j / 2) (j % 2) _ hx (by omega)
      rw [show j / 2 * 2 + j % 2 = j by omega, hu] at g2
      rw [← g2, add_add, show j / 2 * 2 + j % 2 = j by omega] at g
      exact g
    · obtain ⟨i, hi, rfl⟩ := List.getElem_of_mem hq
      exact (hat i _ (List.getElem?_eq_getElem hi)).1
end

end Go.Proofs.Ytidlpiamiglppaa
