/-
  A tree of layer 4 that came in: what its cells hold.
  A slice of bytes that came in reads as a list of bytes.
  A row of integers that came in: what its cells hold.
-/
import Derived.Test.YtpbmgbeiieapiaaGreatDoorTre
import Derived.Test.YtpbmgbeiieapiaaGreatDoorProg
import Derived.Deep.Slices
import Derived.Deep.Fields
import Derived.ChangeSame
import Derived.ProofKit
import Derived.OpenShut
import Derived.ChangeOld
import Derived.Test.YtpbmgbeiieapiaaGreatDoorMem
import Derived.ShutString

namespace Go.Proofs.YtpbmgbeiieapiaaGreatDoor
open Go Go.RowKit Go.Deep Go.ChangeShapes Go.WideShapes
set_option linter.unusedVariables false

section
variable {H : Type} {enc : TypeId × Value → H} {w : World} {base : Nat} {held : Bool}

/-- Each field of a struct whose fields are of one cell each reads by itself. -/
theorem fields_read4 {P : Program} {t : TypeId} {fs : Array Field} {fuel : Nat} {cs : List Value} {x : DataW H × List MemPlace} (hs : P.underlying t = some (.struct fs)) (hone : oneCellFields P fs = true)
    (h : DataW.trod enc P w base (fun _ => true) held fuel t cs = some x) :
    cs.length = P.cellsOf t ∧ ∃ n, fuel = n + 1 ∧ ∀ (j : Nat) (f : Field), fs[j]? = some f → ∃ y, DataW.trod enc P w base (fun _ => true) held n f.type ((cs.drop j).take 1) = some y := by
  obtain ⟨ys, n, hn, _, hlen, hyl, hf⟩ := DataW.trod_struct hs h
  refine ⟨hlen, n, hn, fun j f hj => ?_⟩
  obtain ⟨ho, hk⟩ := hone_of hone j f hj
  have hjl : j < fs.size := (Array.getElem?_eq_some_iff.1 hj).1
  have h1 := hf j f hj
  rw [ho, hk] at h1
  exact ⟨ys[j]'(by omega), h1.trans (List.getElem?_eq_getElem (by omega))⟩

/-- So many that are each such, as one list. -/
theorem list_of {α : Type} {q : Nat → α → Prop} : ∀ k : Nat, (∀ i, i < k → ∃ a, q i a) → ∃ l : List α, l.length = k ∧ ∀ i a, l[i]? = some a → q i a := by
  intro k
  induction k with
  | zero => intro _; exact ⟨[], rfl, by simp⟩
  | succ k ih =>
    intro h
    obtain ⟨l, h1, h2⟩ := ih fun i hi => h i (by omega)
    obtain ⟨a, ha⟩ := h k (by omega)
    refine ⟨l ++ [a], by simp [h1], fun i x hx => ?_⟩
    rcases Nat.lt_or_ge i k with h3 | h3
    · rw [List.getElem?_append_left (by omega)] at hx; exact h2 i x hx
    · rw [List.getElem?_append_right (by omega)] at hx
      have : i = k := by
        rcases Nat.lt_or_ge (i - l.length) 1 with h4 | h4
        · omega
        · rw [List.getElem?_eq_none (by simpa using h4)] at hx; cases hx
      subst this
      simp [h1] at hx
      subst hx
      exact ha

theorem expr_read : ∀ (fuel : Nat) (cs : List Value) (x : DataW H × List MemPlace), DataW.trod enc Tryz.prog w base (fun _ => true) held fuel 25 cs = some x → ∃ v : V, cs = v.cells ∧ Lies w 0 w.heap.size v := by
  intro fuel
  induction fuel using Nat.strongRecOn with
  | _ fuel ih =>
  intro cs x h
  obtain ⟨hlen, n, hn, hf⟩ := fields_read4 Tryz.underlying25 (by kernel_rfl) h
  have h4 : Tryz.prog.cellsOf 25 = 4 := by kernel_rfl
  rw [h4] at hlen
  match cs, hlen with
  | [c0, c1, c2, c3], _ =>
    obtain ⟨y0, g0⟩ := hf 0 _ rfl
    obtain ⟨y1, g1⟩ := hf 1 _ rfl
    obtain ⟨y2, g2⟩ := hf 2 _ rfl
    obtain ⟨y3, g3⟩ := hf 3 _ rfl
    obtain ⟨d0, e0, _, w0⟩ := DataW.trod_int Tryz.underlying3 g0
    obtain ⟨d1, e1, _, w1⟩ := DataW.trod_int Tryz.underlying22 g1
    obtain ⟨d2, e2, _, w2⟩ := DataW.trod_int Tryz.underlying22 g2
    simp at e0 e1 e2
    subst e0 e1 e2
    have hv0 := (bounds_i64 w0)
    have hv1 := (bounds_u64 w1)
    have hv2 := (bounds_u64 w2)
    obtain ⟨a, rfl⟩ : ∃ u : Nat, d1 = u := ⟨d1.toNat, by omega⟩
    obtain ⟨b, rfl⟩ : ∃ u : Nat, d2 = u := ⟨d2.toNat, by omega⟩
    rcases DataW.trod_slice Tryz.underlying23 g3 with ⟨hcs, _⟩ | ⟨ad, len, cap, elems, rest, m, hm, hcs, -, hbs, hl, hmx, hel, helem, -, -⟩
    · simp at hcs
      subst hcs
      exact ⟨.node d0 a b none 0 [], rfl, .mk _ _ _ _ _ _ hv0 (by omega) (by omega) Rd.zero (by simp) (fun ad e => by cases e) (by simp)⟩
    · simp at hcs
      subst hcs
      have each : ∀ i, i < len → ∃ v : V, Lies w 0 w.heap.size v ∧ ∀ j, j < 4 → w.cell? ((ad.add (i * 4)).add j) = v.cells[j]? := by
        intro i hil
        have h1 := helem i hil
        rw [h4] at h1
        rw [List.getElem?_eq_getElem (by omega)] at h1
        obtain ⟨cs', hc, ht⟩ := Option.bind_eq_some_iff.1 h1
        obtain ⟨v, rfl, hL⟩ := ih m (by omega) cs' _ ht
        exact ⟨v, hL, (World.cells?_some hc).2.2⟩
      obtain ⟨ps, hpl, hps⟩ := list_of len each
      refine ⟨.node d0 a b (some ad) cap ps, by rw [← hpl]; rfl, .mk _ _ _ _ _ _ hv0 (by omega) (by omega) ⟨by rw [vCells_length], fun h0 => ⟨ad, rfl, ?_, ?_⟩⟩ ⟨by omega, by unfold maxLen at hmx; omega⟩ (fun _ _ _ => Nat.zero_le _) (fun p hp => ?_)⟩
      · have := (hps 0 _ (List.getElem?_eq_getElem (show 0 < ps.length by omega))).2 0 (by omega)
        have h1 := World.block_lt_of_cell? w _ (this.trans rfl)
        rw [add_block, add_block] at h1
        exact h1
      · intro j u hu
        have hjl : j < (vCells ps).length := (List.getElem?_eq_some_iff.1 hu).1
        rw [vCells_length] at hjl
        have hq : j / 4 < ps.length := by omega
        have hg := vCells_get ps (j / 4) (j % 4) _ (List.getElem?_eq_getElem hq) (by omega)
        rw [show j / 4 * 4 + j % 4 = j by omega, hu] at hg
        have := (hps (j / 4) _ (List.getElem?_eq_getElem hq)).2 (j % 4) (by omega)
        rw [add_add, show j / 4 * 4 + j % 4 = j by omega] at this
        rw [this, hg]
      · obtain ⟨i, hi⟩ := List.getElem?_of_mem hp
        exact (hps i p hi).1
end

end Go.Proofs.YtpbmgbeiieapiaaGreatDoor

namespace Go.Proofs.YtpbmgbeiieapiaaGreatDoor
open Go Go.RowKit

/-- A slice of integers that came in: nil, or a row of cap cells that hold the numbers zs, each fitting its kind. -/
def IsRow (k : IntKind) (w : World) (a : Option Addr) (len cap : Nat) (zs : List Int) : Prop :=
  (a = none ∧ len = 0 ∧ cap = 0 ∧ zs = []) ∨
  ∃ x, a = some x ∧ len ≤ cap ∧ cap ≤ maxLen ∧ zs.length = cap ∧ (∀ i, i < zs.length → w.cell? (x.add i) = some (.int k (zs.getD i 0))) ∧ ∀ n ∈ zs, (Lit.int k n).wf = true

theorem IsRow.rd {w : World} {a : Option Addr} {len cap : Nat} {zs : List Int} (h : IsRow .u8 w a len cap zs) :
    ∃ l : List Nat, Rd w w.heap.size 1 a len (bs l) ∧ (∀ x ∈ l, x < 256) ∧ len ≤ cap ∧ cap ≤ 9223372036854775807 := by
  rcases h with ⟨rfl, rfl, rfl, rfl⟩ | ⟨x, rfl, hl, hm, hz, hc, hw⟩
  · exact ⟨[], Rd.zero, by simp, Nat.le_refl _, by omega⟩
  · have hmem : ∀ n ∈ zs, 0 ≤ n ∧ n ≤ 255 := fun n hn => bounds_u8 (hw n hn)
    refine ⟨(zs.take len).map Int.toNat, ⟨?_, fun h0 => ⟨x, rfl, ?_, ?_⟩⟩, ?_, hl, by unfold maxLen at hm; omega⟩
    · rw [bs_length, List.length_map, List.length_take]; omega
    · have := World.block_lt_of_cell? w _ (hc 0 (by omega)); rw [add_block] at this; exact this
    · intro j u hu
      have hj : j < len := by
        rcases Nat.lt_or_ge j len with h1 | h1
        · exact h1
        · rw [List.getElem?_eq_none (by rw [bs_length, List.length_map, List.length_take]; omega)] at hu; cases hu
      have hjz : j < zs.length := by omega
      rw [hc j hjz]
      simp only [bs, List.map_map, List.getElem?_map, List.getElem?_take, hj, if_true, List.getElem?_eq_getElem hjz, Option.map_some, Option.some.injEq] at hu
      rw [List.getD_eq_getElem?_getD, List.getElem?_eq_getElem hjz]
      have hb := hmem zs[j] (List.getElem_mem hjz)
      rw [← hu]
      simp only [Option.getD_some, Function.comp_apply, Option.some.injEq, Value.int.injEq, true_and]
      omega
    · intro y hy
      obtain ⟨n, hn, rfl⟩ := List.mem_map.1 hy
      have := hmem n (List.mem_of_mem_take hn)
      omega

end Go.Proofs.YtpbmgbeiieapiaaGreatDoor

namespace Go.Proofs.YtpbmgbeiieapiaaGreatDoor
open Go Go.RowKit Go.Deep Go.ChangeShapes Go.WideShapes
set_option linter.unusedVariables false

section
variable {H : Type} {enc : TypeId × Value → H} {P : Program} {w : World} {base : Nat} {held : Bool}
theorem row_read {t e : TypeId} {k : IntKind} {fuel : Nat} {v : Value} {x : DataW H × List MemPlace} (ht : P.underlying t = some (.slice e)) (he : P.underlying e = some (.int k)) (hc : P.cellsOf e = 1)
    (h : DataW.trod enc P w base (fun _ => true) held fuel t [v] = some x) : ∃ a len cap zs, v = .slice a len cap ∧ IsRow k w a len cap zs := by
  rcases open_ints ht he hc h with ⟨hcs, _⟩ | ⟨a, len, cap, zs, hcs, _, hl, hm, hz, _, hcell, hw⟩
  · simp only [List.cons.injEq, and_true] at hcs
    exact ⟨none, 0, 0, [], hcs, .inl ⟨rfl, rfl, rfl, rfl⟩⟩
  · simp only [List.cons.injEq, and_true] at hcs
    exact ⟨_, len, cap, zs, hcs, .inr ⟨a, rfl, hl, hm, by simpa using hz, hcell, hw⟩⟩
end

end Go.Proofs.YtpbmgbeiieapiaaGreatDoor
