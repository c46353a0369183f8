/-
  Layer 8: the document's Within, Same, in.
-/
import Derived.Test.YtiembenkdldklaaDoorYf
namespace Go.Proofs.YtiembenkdldklaaDoor
open Go Go.RowKit
set_option linter.unusedVariables false

/-- Is each number of l in m? -/
def inAll (l m : List Bool) (k : Nat) : Bool := (List.range k).all fun i => !bt l i || bt m i
def withinB (l m : List Bool) : Bool := inAll l m l.length
def sameB (l m : List Bool) : Bool := decide (l = m)
theorem inAll_succ (l m : List Bool) (k : Nat) : inAll l m (k + 1) = (inAll l m k && (!bt l k || bt m k)) := by
  unfold inAll; rw [List.range_succ, List.all_append]; simp
theorem within_iff {l m : List Bool} : withinB l m = true ↔ ∀ i, bt l i = true → bt m i = true := by
  unfold withinB inAll
  rw [List.all_eq_true]
  constructor
  · intro h i hi
    have hlt : i < l.length := by
      rcases Nat.lt_or_ge i l.length with h | h
      · exact h
      · rw [bt_ge h] at hi; cases hi
    have := h i (by simpa using hlt)
    simpa [hi] using this
  · intro h i hi
    cases hb : bt l i with
    | false => rfl
    | true => simp [h i hb]
theorem within_no {l m : List Bool} {k : Nat} (hk : k < l.length) (h1 : bt l k = true) (h2 : bt m k = false) : withinB l m = false := by
  cases h : withinB l m with
  | false => rfl
  | true => have := within_iff.1 h k h1; rw [h2] at this; cases this
theorem same_within (l m : List Bool) : (decide (l.length = m.length) && withinB l m && withinB m l) = sameB l m := by
  unfold sameB
  rw [Bool.eq_iff_iff]
  simp only [Bool.and_eq_true, decide_eq_true_eq]
  constructor
  · rintro ⟨⟨h1, h2⟩, h3⟩
    refine bt_ext h1 fun i => ?_
    rw [Bool.eq_iff_iff]
    exact ⟨within_iff.1 h2 i, within_iff.1 h3 i⟩
  · rintro rfl
    exact ⟨⟨rfl, within_iff.2 fun _ h => h⟩, within_iff.2 fun _ h => h⟩

/-- Two blocks of a set each. -/
theorem two_sets (w : World) (v u : Value) (T : TypeId) : ∃ W, W = (w.alloc (.cells #[v] T)).alloc (.cells #[u] T) ∧ W.heap.size = w.heap.size + 2 ∧ Below w.heap.size w W ∧
    W.heap[w.heap.size]? = some (.cells #[v] T (0, 0)) ∧ W.heap[w.heap.size + 1]? = some (.cells #[u] T (0, 0)) := by
  refine ⟨_, rfl, by simp, (below_new w _).alloc (below_new w _).size _, (heap_alloc_old _ _ (by simp)).trans (heap_alloc_new w _), ?_⟩
  have := heap_alloc_new (w.alloc (.cells #[v] T)) (.cells #[u] T)
  rwa [World.size_alloc] at this

set_option maxRecDepth 100000 in
set_option maxHeartbeats 800000 in
theorem dwithin_any (B B' : Nat) (v u : Value) (l m : List Bool) (w : World) (h : DS w B v l) (h' : DS w B' u m) (hB : B ≤ w.heap.size) (hB' : B' ≤ w.heap.size) :
    Calls Tryd.prog 23 #[v, u] w fun e w' => e = .returned (.bool (withinB l m)) ∧ Below w.heap.size w w' := by
  have hd' := h'
  obtain ⟨A, c, rfl, hr, hc, hle⟩ := h
  obtain ⟨A', c', rfl, hr', hc', hle'⟩ := h'
  obtain ⟨W, hW, hs, hb, y0, y1⟩ := two_sets w (.slice A l.length c) (.slice A' m.length c') 33
  have HH := Lib_hid (fun (X : World) (hX : Below w.heap.size w X) (i : Nat) (hi : i < l.length) => b_at (hr.below (hX.mono hB)) hi)
  have HA := Lib_hid (fun (X : World) (hX : Below w.heap.size w X) (k : Nat) => hasB_nat m k ▸ dhas_any B' _ m (k : Int) X (hd'.below (hX.mono hB')) (Nat.le_trans hB' hX.size))
  have hst : Hid (W.heap[w.heap.size]? = some (.cells #[.slice A l.length c] 33 (0, 0)) ∧ W.heap[w.heap.size + 1]? = some (.cells #[.slice A' m.length c'] 33 (0, 0)) ∧ Below w.heap.size w W ∧ w.heap.size + 2 ≤ W.heap.size) := ⟨y0, y1, hb, by omega⟩
  have HW := Lib_hid hW
  clear hr hr' hd' y0 y1 hb hs hW
  go_enter Tryd.func23, Tryd.ntmps23
  go_wp2_with (rw [← HW.out])
  go_loopw [5] (fun i wr => ∃ k : Nat, i = .int .i64 k ∧ k ≤ l.length ∧ Hid (inAll l m k = true) ∧ Hid (wr.heap[w.heap.size]? = some (.cells #[.slice A l.length c] 33 (0, 0)) ∧ wr.heap[w.heap.size + 1]? = some (.cells #[.slice A' m.length c'] 33 (0, 0)) ∧ Below w.heap.size w wr ∧ w.heap.size + 2 ≤ wr.heap.size)) (fun i _ => l.length - (intOf i).toNat)
  case atStart => exact ⟨0, rfl, Nat.zero_le _, rfl, hst⟩
  case round =>
    clear hst
    obtain ⟨k, rfl, hk, hin, hh⟩ := hrel
    have q0 := cell_of_row _ _ 0 _ _ _ hh.out.1
    have q1 := cell_of_row _ _ 0 _ _ _ hh.out.2.1
    by_cases hlt : k < l.length
    · obtain ⟨b, off, rfl, hbl, c1⟩ := HH.out _ hh.out.2.2.1 k hlt
      have hsu := inAll_succ l m k
      rw [hin.out] at hsu
      cases hbt : bt l k with
      | false =>
        rw [hbt] at c1 hsu
        have HS : Hid (inAll l m (k + 1) = true) := hsu
        clear hbt hsu hin
        go_wp2
        go_roundw
        case rel => exact ⟨k + 1, by go_num, by omega, HS, hh⟩
        case measure => simp [intOf]; omega
      | true =>
        rw [hbt] at c1
        cases hbm : bt m k with
        | true =>
          rw [hbt, hbm] at hsu
          have HS : Hid (inAll l m (k + 1) = true) := hsu
          have HC := HA.out _ hh.out.2.2.1 k
          rw [hbm] at HC
          have HCC := Lib_hid HC
          clear hbt hbm hsu hin HC
          go_wp2_with fail
          refine HCC.out.mono ?_
          rintro e w1 ⟨rfl, hb1⟩
          have hb2 := hh.out.2.2.1.trans (hb1.mono hh.out.2.2.1.size)
          have H1 : Hid (w1.heap[w.heap.size]? = some (.cells #[.slice (some ⟨b, off, none⟩) l.length c] 33 (0, 0)) ∧ w1.heap[w.heap.size + 1]? = some (.cells #[.slice A' m.length c'] 33 (0, 0)) ∧ Below w.heap.size w w1 ∧ w.heap.size + 2 ≤ w1.heap.size) :=
            ⟨(hb1.block _ (by have := hh.out.2.2.2; omega)).trans hh.out.1, (hb1.block _ (by have := hh.out.2.2.2; omega)).trans hh.out.2.1, hb2, by have := hh.out.2.2.2; have := hb1.size; omega⟩
          clear hb1 hb2
          go_wp2
          go_roundw
          case rel => exact ⟨k + 1, by go_num, by omega, HS, H1⟩
          case measure => simp [intOf]; omega
        | false =>
          have hv : withinB l m = false := within_no hlt hbt hbm
          have HV := Lib_hid hv
          have HC := HA.out _ hh.out.2.2.1 k
          rw [hbm] at HC
          have HCC := Lib_hid HC
          clear hbt hbm hsu hin HC hv
          go_wp2_with fail
          refine HCC.out.mono ?_
          rintro e w1 ⟨rfl, hb1⟩
          have hb2 := hh.out.2.2.1.trans (hb1.mono hh.out.2.2.1.size)
          clear hb1
          go_wp2
          go_ret
          exact ⟨by rw [HV.out]; rfl, hb2⟩
    · obtain rfl : k = l.length := by omega
      have hv : withinB l m = true := hin.out
      have HV := Lib_hid hv
      have hb2 := hh.out.2.2.1
      clear hv hin
      go_wp2
      go_ret
      exact ⟨by rw [HV.out]; rfl, hb2⟩

set_option maxRecDepth 100000 in
theorem dsame_any (B B' : Nat) (v u : Value) (l m : List Bool) (w : World) (h : DS w B v l) (h' : DS w B' u m) (hB : B ≤ w.heap.size) (hB' : B' ≤ w.heap.size) :
    Calls Tryd.prog 20 #[v, u] w fun e w' => e = .returned (.bool (sameB l m)) ∧ Below w.heap.size w w' := by
  have hd := h
  have hd' := h'
  obtain ⟨A, c, rfl, hr, hc, hle⟩ := h
  obtain ⟨A', c', rfl, hr', hc', hle'⟩ := h'
  obtain ⟨W, hW, hs, hb, y0, y1⟩ := two_sets w (.slice A l.length c) (.slice A' m.length c') 33
  have HF := Lib_hid (fun (X : World) (hX : Below w.heap.size w X) => dwithin_any B B' _ _ l m X (hd.below (hX.mono hB)) (hd'.below (hX.mono hB')) (Nat.le_trans hB hX.size) (Nat.le_trans hB' hX.size))
  have HG := Lib_hid (fun (X : World) (hX : Below w.heap.size w X) => dwithin_any B' B _ _ m l X (hd'.below (hX.mono hB')) (hd.below (hX.mono hB)) (Nat.le_trans hB' hX.size) (Nat.le_trans hB hX.size))
  have q0 := cell_of_row _ _ 0 _ _ _ y0
  have q1 := cell_of_row _ _ 0 _ _ _ y1
  have HB := Lib_hid (And.intro y0 (And.intro y1 (And.intro hb hs)))
  have HS := Lib_hid (same_within l m)
  have HW := Lib_hid hW
  clear hr hr' hd hd' y0 y1 hb hs hW hle hle'
  by_cases he : l.length = m.length
  · have d1 : ((l.length : Int) == (m.length : Int)) = true := by rw [int_beq, he]; simp
    have d2 := HS.out
    rw [he] at d2
    simp only [decide_true, Bool.true_and] at d2
    cases e1 : withinB l m with
    | false =>
      rw [e1] at HF d2
      have D2 := Lib_hid d2
      clear e1 d2 he HG
      go_enter Tryd.func20, Tryd.ntmps20
      go_wp2_with fail
      rw [← HW.out]
      refine (HF.out W HB.out.2.2.1).mono ?_
      rintro e w1 ⟨rfl, hb1⟩
      have hb2 := HB.out.2.2.1.trans (hb1.mono HB.out.2.2.1.size)
      clear hb1
      go_wp2
      go_ret
      exact ⟨by rw [← D2.out]; rfl, hb2⟩
    | true =>
      rw [e1] at HF d2
      have D2 := Lib_hid d2
      clear e1 d2 he
      go_enter Tryd.func20, Tryd.ntmps20
      go_wp2_with fail
      rw [← HW.out]
      refine (HF.out W HB.out.2.2.1).mono ?_
      rintro e w1 ⟨rfl, hb1⟩
      have hb2 := HB.out.2.2.1.trans (hb1.mono HB.out.2.2.1.size)
      have k0 := cell_of_row _ _ 0 _ _ _ ((hb1.block w.heap.size (by have := HB.out.2.2.2; omega)).trans HB.out.1)
      have k1 := cell_of_row _ _ 0 _ _ _ ((hb1.block (w.heap.size + 1) (by have := HB.out.2.2.2; omega)).trans HB.out.2.1)
      clear hb1
      go_wp2_with fail
      refine (HG.out w1 hb2).mono ?_
      rintro e w2 ⟨rfl, hb3⟩
      have hb4 := hb2.trans (hb3.mono hb2.size)
      clear hb3
      go_wp2
      go_ret
      exact ⟨by rw [← D2.out]; simp, hb4⟩
  · have d1 : ((l.length : Int) == (m.length : Int)) = false := by rw [int_beq]; simpa using he
    have d2 := HS.out
    rw [decide_eq_false he] at d2
    have D2 := Lib_hid d2
    have hb := HB.out.2.2.1
    clear d2 he HF HG
    go_enter Tryd.func20, Tryd.ntmps20
    go_wp2_with (rw [← HW.out])
    go_ret
    exact ⟨by rw [← D2.out]; rfl, hb⟩

end Go.Proofs.YtiembenkdldklaaDoor
