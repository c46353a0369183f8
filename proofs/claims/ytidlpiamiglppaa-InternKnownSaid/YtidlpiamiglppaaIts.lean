/-
  Layer 7: numbers sorted by their names: what slices.SortFunc leaves, in this layer's words. No function of the program is named here.
-/
import Derived.Test.YtidlpiamiglppaaIri
import Derived.Test.YtidlpiamiglppaaShs
import Derived.Shelf.SlSortCmp.NoneTotal
namespace Go.Proofs.Ytidlpiamiglppaa
open Go Go.RowKit Go.Sort
set_option linter.unusedVariables false

/-- How two names compare. -/
def cmpP (a b : PP) : Int := if lessP a b = true then -1 else if lessP b a = true then 1 else 0
def cfP (l : List PP) (m : Nat) (i j : Fin (m + 1)) : Int := cmpP (at0 l i.val) (at0 l j.val)
def encF (m : Nat) (i : Fin (m + 1)) : Value := .int .i64 (i.val : Int)

theorem ltOf_cfP (l : List PP) (m : Nat) (i j : Fin (m + 1)) : ltOf (cfP l m) i j = lessP (at0 l i.val) (at0 l j.val) := by
  unfold ltOf cfP cmpP
  cases h : lessP (at0 l i.val) (at0 l j.val) with
  | true => simp
  | false => cases h2 : lessP (at0 l j.val) (at0 l i.val) <;> simp
theorem swo_cfP (l : List PP) (m : Nat) : SWO (ltOf (cfP l m)) where
  irrefl x := by rw [ltOf_cfP]; exact lessP_irrefl _
  trans x y z h1 h2 := by rw [ltOf_cfP] at *; exact lessP_trans h1 h2
  ntrans x y z h1 h2 := by
    rw [ltOf_cfP] at *
    cases h3 : lessP (at0 l x.val) (at0 l z.val) with
    | false => rfl
    | true =>
      have n1 : ¬ lessP (at0 l x.val) (at0 l y.val) = true := by simp [h1]
      have n2 : ¬ lessP (at0 l y.val) (at0 l z.val) = true := by simp [h2]
      rw [lessP_iff] at n1 n2 h3
      omega

/-- The row of numbers ahead of the sort. -/
def rowF (m : Nat) : Array (Fin (m + 1)) := (List.finRange (m + 1)).toArray
theorem rowF_size (m : Nat) : (rowF m).size = m + 1 := by simp [rowF]
theorem rowF_vals (m : Nat) : (rowF m).toList.map Fin.val = List.range (m + 1) := by
  apply List.ext_getElem
  · simp [rowF]
  · intro i h1 h2; simp [rowF]

theorem extract_whole {α : Type} (d : Array α) (n : Nat) (h : d.size = n) : (d.extract 0 n).toList = d.toList := by subst h; simp

theorem rising_of_sorted {l : List PP} (hd : l.Nodup) {m : Nat} (hm : l.length = m + 1) {d' : Array (Fin (m + 1))} (hp : PermIn 0 (rowF m).size (rowF m) d') (hs : SortedIn (ltOf (cfP l m)) 0 (rowF m).size d') :
    IsRising l (d'.toList.map Fin.val) := by
  have hsz : d'.size = m + 1 := hp.1.trans (rowF_size m)
  have h1 := hp.2.2
  rw [rowF_size] at h1 hs
  rw [extract_whole _ _ hsz, extract_whole _ _ (rowF_size m)] at h1
  have hperm : (d'.toList.map Fin.val).Perm (List.range l.length) := by
    have := h1.map Fin.val
    rw [rowF_vals] at this
    rw [hm]
    exact this
  refine ⟨hperm, ?_⟩
  have hnd : (d'.toList.map Fin.val).Nodup := hperm.nodup_iff.2 List.nodup_range
  rw [List.pairwise_iff_getElem]
  intro i j hi hj hij
  have hi' : i < m + 1 := by simpa [hsz] using hi
  have hj' : j < m + 1 := by simpa [hsz] using hj
  have h2 := hs i j (Nat.zero_le _) hij hj'
  rw [getElem!_pos d' i (by omega), getElem!_pos d' j (by omega), ltOf_cfP] at h2
  simp only [List.getElem_map, Array.getElem_toList]
  cases h3 : lessP (at0 l (d'[i]'(by omega)).val) (at0 l (d'[j]'(by omega)).val) with
  | true => rfl
  | false =>
    exfalso
    have e := lessP_total h3 h2
    have b1 : (d'[i]'(by omega)).val < l.length := by have := (d'[i]'(by omega)).isLt; omega
    have b2 : (d'[j]'(by omega)).val < l.length := by have := (d'[j]'(by omega)).isLt; omega
    rw [at0_lt b1, at0_lt b2] at e
    have e2 := (List.getElem_inj hd).1 e
    have e3 : (d'.toList.map Fin.val)[i] = (d'.toList.map Fin.val)[j] := by simpa using e2
    have := (List.getElem_inj hnd).1 e3
    omega

theorem rowF_get (m : Nat) {j : Nat} (hj : j < m + 1) : (rowF m)[j]! = ⟨j, hj⟩ := by
  rw [getElem!_pos _ _ (by rw [rowF_size]; exact hj)]
  simp [rowF]

/-- A row of the numbers from 0 on is held. -/
theorem holds_rowF {w : World} {base g m c : Nat} {e : TypeId} (h : w.ownsRow base e 1 (.slice (some ⟨g, 0, none⟩) (m + 1) c) (m + 1) (ic (List.range (m + 1)))) : Holds (encF m) w g 0 (rowF m) := by
  intro j hj
  rw [rowF_size] at hj
  refine ⟨?_, h.frozenAt _⟩
  rw [h.cellAt _ (by omega), Nat.zero_add, ic_get (by simpa using hj), rowF_get m hj]
  simp [encF, List.getD_eq_getElem?_getD, hj]

/-- What the sort leaves of that row. -/
theorem own_sorted {w : World} {base g m c : Nat} {e : TypeId} {xs : List Value} (h : w.ownsRow base e 1 (.slice (some ⟨g, 0, none⟩) (m + 1) c) (m + 1) xs) (d' : Array (Fin (m + 1))) (hd : d'.size = m + 1) (q : Nat) (os : Array Obj) :
    (sortWorld (encF m) w g 0 q d' os).ownsRow base e 1 (.slice (some ⟨g, 0, none⟩) (m + 1) c) (m + 1) (ic (d'.toList.map Fin.val)) := by
  rcases h.2 with ⟨h', _⟩ | ⟨g', cap', cur, h', hb, hg, hnc, hcm, hcs, htake⟩
  · simp at h'
  · simp only [Value.slice.injEq, Option.some.injEq, Addr.mk.injEq, and_true, true_and] at h'
    obtain ⟨rfl, rfl⟩ := h'
    have hlt : g < w.heap.size := (Array.getElem?_eq_some_iff.1 hg).1
    refine ⟨by simp [ic, hd], .inr ⟨g, c, putCells (encF m) 0 d' cur, rfl, hb, ?_, hnc, hcm, by simp [putCells, hcs], ?_⟩⟩
    · unfold sortWorld
      rw [heap_grow_old _ _ (by simpa using hlt)]
      simp [putRow, mapBlock, Array.getElem?_modify, hg, onCells]
    · apply List.ext_getElem?
      intro i
      rw [List.getElem?_take]
      by_cases hi : i < (m + 1) * 1
      · have hi' : i < cur.size := by omega
        have hid : i < d'.size := by omega
        rw [if_pos hi]
        simp [putCells, ic, hi', hid, encF]
      · rw [if_neg hi, List.getElem?_eq_none (by simp [ic, hd]; omega)]

theorem sortWorld_block {m : Nat} (w : World) (g q : Nat) (d' : Array (Fin (m + 1))) (os : Array Obj) {k : Nat} (hk : k < w.heap.size) (hne : k ≠ g) : (sortWorld (encF m) w g 0 q d' os).heap[k]? = w.heap[k]? := by
  unfold sortWorld
  rw [heap_grow_old _ _ (by simpa using hk)]
  simp only [putRow, mapBlock, Array.getElem?_modify]
  rw [if_neg (fun e => hne e.symm)]
  rfl
theorem sortWorld_size {m : Nat} (w : World) (g q : Nat) (d' : Array (Fin (m + 1))) (os : Array Obj) : w.heap.size ≤ (sortWorld (encF m) w g 0 q d' os).heap.size := by
  unfold sortWorld
  rw [size_grow]
  simp
theorem sortWorld_below {m B : Nat} (w : World) (g q : Nat) (d' : Array (Fin (m + 1))) (os : Array Obj) (hB : B ≤ w.heap.size) (hg : B ≤ g) : RowKit.Below B w (sortWorld (encF m) w g 0 q d' os) :=
  ⟨rfl, rfl, rfl, sortWorld_size w g q d' os, fun k hk => sortWorld_block w g q d' os (by omega) (by omega)⟩

end Go.Proofs.Ytidlpiamiglppaa
