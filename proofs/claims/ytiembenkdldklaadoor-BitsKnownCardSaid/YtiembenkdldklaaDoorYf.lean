/-
  Layer 8: the document's All, Next, Within, Same.
-/
import Derived.Test.YtiembenkdldklaaDoorYe
namespace Go.Proofs.YtiembenkdldklaaDoor
open Go Go.RowKit
set_option linter.unusedVariables false

/-- Ends with a row of numbers in new memory. -/
def IcEnd (xs : List Nat) (w : World) (e : Ending) (w' : World) : Prop :=
  ∃ A c, e = .returned (.slice A xs.length c) ∧ w'.ownsRow w.heap.size 3 1 (.slice A xs.length c) xs.length (ic xs) ∧ Below w.heap.size w w'
/-- The numbers below k; all. -/
def allK (l : List Bool) (k : Nat) : List Nat := (List.range k).filter (bt l)
def allB (l : List Bool) : List Nat := allK l l.length
theorem allK_succ (l : List Bool) (k : Nat) : allK l (k + 1) = if bt l k = true then allK l k ++ [k] else allK l k := by
  unfold allK
  rw [List.range_succ, List.filter_append]
  cases h : bt l k <;> simp [h]
theorem allK_len (l : List Bool) (k : Nat) : (allK l k).length ≤ k := by
  unfold allK; have := List.length_filter_le (bt l) (List.range k); simpa using this
theorem rd_int (w : World) (x : Nat) (T : TypeId) : Rd (w.alloc (.cells #[.int .i64 (x : Int)] T)) (w.heap.size + 1) 1 (some ⟨w.heap.size, 0, none⟩) 1 (ic [x]) :=
  ⟨rfl, fun _ => ⟨_, rfl, by simp, fun j u hu => by
    match j, hu with
    | 0, hu => simp [ic] at hu; subst hu; simp [Addr.add]⟩⟩
theorem ic_append (l m : List Nat) : ic (l ++ m) = ic l ++ ic m := by simp [ic]

set_option maxRecDepth 100000 in
set_option maxHeartbeats 800000 in
theorem dall_any (B : Nat) (v : Value) (l : List Bool) (w : World) (h : DS w B v l) (hB : B ≤ w.heap.size) :
    Calls Tryd.prog 40 #[v] w (IcEnd (allB l) w) := by
  obtain ⟨A, c, rfl, hr, hc, hle⟩ := h
  obtain ⟨i0, hi0, hz0, hz1, hz2⟩ := info_parts Tryd.infoI
  have hb0 := below_new w (.cells #[.slice A l.length c] 33)
  have y0 := heap_alloc_new w (.cells #[.slice A l.length c] 33)
  have HH := Lib_hid (fun (W : World) (hW : Below w.heap.size w W) (i : Nat) (hi : i < l.length) => b_at (hr.below (hW.mono hB)) hi)
  have hk0 : Hid (allB l = allK l l.length) := rfl
  clear hr
  rw [hk0.out]
  clear hk0
  generalize hn : l.length = n at *
  have HN := Lib_hid hn
  clear hn
  have hs0 : (w.alloc (.cells #[.slice A n c] 33)).heap.size = w.heap.size + 1 := by simp
  have hst : Hid ((w.alloc (.cells #[.slice A n c] 33)).heap[w.heap.size]? = some (.cells #[.slice A n c] 33 (0, 0)) ∧ Below w.heap.size w (w.alloc (.cells #[.slice A n c] 33)) ∧ w.heap.size < (w.alloc (.cells #[.slice A n c] 33)).heap.size) := ⟨y0, hb0, by omega⟩
  clear y0 hb0 hs0
  go_enter Tryd.func40, Tryd.ntmps40
  go_wp2
  go_loopw [3, 4] (fun o i wr => ∃ (k c' : Nat) (A' : Option Addr), o = .slice A' (allK l k).length c' ∧ i = .int .i64 k ∧ k ≤ n ∧ wr.ownsRow (w.heap.size + 1) 3 1 (.slice A' (allK l k).length c') (allK l k).length (ic (allK l k)) ∧ Hid (wr.heap[w.heap.size]? = some (.cells #[.slice A n c] 33 (0, 0)) ∧ Below w.heap.size w wr ∧ w.heap.size < wr.heap.size)) (fun _ i _ => n - (intOf i).toNat)
  case atStart => exact ⟨0, 0, none, rfl, rfl, Nat.zero_le _, World.ownsRow_nil _ _ _ _, hst⟩
  case round =>
    clear hst
    obtain ⟨k, c', A', rfl, rfl, hk, ho, hh⟩ := hrel
    have q0 := cell_of_row _ _ 0 _ _ _ hh.out.1
    have hlen := allK_len l k
    by_cases hlt : k < n
    · obtain ⟨b, off, rfl, hb, c1⟩ := HH.out _ hh.out.2.1 k hlt
      have hsu := allK_succ l k
      cases hbt : bt l k with
      | true =>
        rw [hbt, if_pos rfl] at hsu
        rw [hbt] at c1
        have HSU := Lib_hid hsu
        have hm1 : (allK l k).length + 1 ≤ maxLen := by unfold maxLen; omega
        have hm2 : ((allK l k).length + 1) * 8 ≤ 140737488355328 := by omega
        have hbs := hh.out.2.1.size
        have ho1 := own_below ho (below_new wr (.cells #[.int .i64 (k : Int)] 3)) (own_lt ho)
        have hr1 := rd_int wr k 3
        have hb1 := hh.out.2.1.alloc hbs (.cells #[.int .i64 (k : Int)] 3)
        have hbs2 : w.heap.size + 1 ≤ wr.heap.size + 1 := by omega
        have HLT := Lib_hid hlen
        clear ho hsu hbt hlen
        generalize hal : allK l k = xs at *
        generalize hal2 : allK l (k + 1) = ys at *
        generalize hxl : xs.length = m at *
        have HXL := Lib_hid (And.intro hal2 hxl)
        clear hal hal2 hxl
        go_wp2_with (at_builtin; (refine wpList_app rfl _ _ 22 rfl (w.heap.size + 1) 3 i0 (.int .i64 0) 1 8 Tryd.underlying22 hi0 hz0 hz1 hz2 rfl (by decide) _ m _ rfl ho1 (wr.heap.size + 1) (some ⟨wr.heap.size, 0, none⟩) 1 1 (ic [k]) rfl hr1 (ic_one _) hm1 hm2 (by simpa using hbs2) ?_); intro v' w6 hown6 hst; obtain ⟨Aw6, cw6, rfl, _⟩ := own_form hown6)
        rw [← ic_append, ← HSU.out] at hown6
        have hyl : m + 1 = ys.length := by rw [HSU.out, List.length_append, HXL.out.2]; rfl
        rw [hyl] at hown6
        have hg := hst.grow
        have hge := own_ge ho1
        go_roundw
        case rel =>
          refine ⟨k + 1, cw6, Aw6, by rw [HXL.out.1, hyl], by go_num, by omega, by rw [HXL.out.1]; exact hown6, ?_⟩
          refine ⟨(hg.block _ (by have := hh.out.2.2; simp; omega) (fun e => by have := hge _ e.symm; omega)).trans ((heap_alloc_old _ _ hh.out.2.2).trans hh.out.1), hb1.grown hg hb1.size (fun j hj => by have := hge j hj; omega), ?_⟩
          have := hg.size
          have := hh.out.2.2
          simp at *
          omega
        case measure => simp [intOf]; omega
      | false =>
        rw [hbt, if_neg (by simp)] at hsu
        rw [hbt] at c1
        have HSU := Lib_hid hsu
        clear hsu hbt
        go_wp2
        go_roundw
        case rel => exact ⟨k + 1, c', A', by rw [HSU.out], by go_num, by omega, by rw [HSU.out]; exact ho, hh⟩
        case measure => simp [intOf]; omega
    · obtain rfl : k = n := by omega
      have hb := hh.out.2.1
      clear hh
      go_wp2
      go_ret
      exact ⟨A', c', rfl, own_base ho (fun j hj => by have := own_ge ho j hj; omega), hb⟩

/-! ### Next -/
def nextB (l : List Bool) (i : Int) : Nat × Bool :=
  match (List.range l.length).find? (fun (k : Nat) => decide (i ≤ (k : Int)) && bt l k) with
  | some k => (k, true)
  | none => (0, false)
theorem next_yes {l : List Bool} {i : Int} {k : Nat} (hk : k < l.length) (hi : i ≤ k) (hb : bt l k = true) (hn : ∀ j : Nat, j < k → i ≤ (j : Int) → bt l j = false) : nextB l i = (k, true) := by
  have : (List.range l.length).find? (fun (k : Nat) => decide (i ≤ (k : Int)) && bt l k) = some k := by
    rw [List.find?_range_eq_some]
    refine ⟨by simp [hi, hb], by simpa using hk, fun j hj => ?_⟩
    by_cases h : i ≤ (j : Int)
    · simp [hn j hj h]
    · simp [h]
  unfold nextB
  rw [this]
theorem next_no {l : List Bool} {i : Int} (hn : ∀ j : Nat, j < l.length → i ≤ (j : Int) → bt l j = false) : nextB l i = (0, false) := by
  have : (List.range l.length).find? (fun (k : Nat) => decide (i ≤ (k : Int)) && bt l k) = none := by
    rw [List.find?_range_eq_none]
    intro j hj
    by_cases h : i ≤ (j : Int)
    · simp [hn j hj h]
    · simp [h]
  unfold nextB
  rw [this]
def nextV (l : List Bool) (i : Int) : Value := .tuple #[.int .i64 ((nextB l i).1 : Int), .bool (nextB l i).2]

set_option maxRecDepth 100000 in
set_option maxHeartbeats 800000 in
theorem dnext_any (B : Nat) (v : Value) (l : List Bool) (i : Int) (w : World) (h : DS w B v l) (hB : B ≤ w.heap.size) :
    Calls Tryd.prog 41 #[v, .int .i64 i] w fun e w' => e = .returned (nextV l i) ∧ Below w.heap.size w w' := by
  obtain ⟨A, c, rfl, hr, hc, hle⟩ := h
  have hb0 := below_new w (.cells #[.slice A l.length c] 33)
  have y0 := cell_of_row _ _ 0 _ _ _ (heap_alloc_new w (.cells #[.slice A l.length c] 33))
  have HH := Lib_hid (fun (k : Nat) (hi : k < l.length) => b_at (hr.below (hb0.mono hB)) hi)
  clear hr
  generalize hW : w.alloc (.cells #[.slice A l.length c] 33) = W at *
  obtain ⟨j0, hj0⟩ : ∃ j0 : Nat, (i < 0 ∧ j0 = 0) ∨ (i = 0 ∧ j0 = 0) ∨ (0 < i ∧ i = (j0 : Int)) := by
    rcases Int.lt_trichotomy i 0 with h | h | h
    · exact ⟨0, .inl ⟨h, rfl⟩⟩
    · exact ⟨0, .inr (.inl ⟨h, rfl⟩)⟩
    · exact ⟨i.toNat, .inr (.inr ⟨h, by omega⟩)⟩
  have hge : i ≤ j0 := by omega
  have hnb : ∀ j : Nat, j < j0 → i ≤ (j : Int) → bt l j = false := fun j hj h => by omega
  have HG := Lib_hid (And.intro hge hnb)
  clear hge hnb
  have HW := Lib_hid hW
  clear hW
  go_enter Tryd.func41, Tryd.ntmps41
  have loop : True := trivial
  rcases hj0 with ⟨h1, h2⟩ | ⟨h1, h2⟩ | ⟨h1, h2⟩
  all_goals
    have H2 := Lib_hid h2
    clear h2
    go_wp2_with (rw [HW.out])
    go_loopw [6] (fun x wr => ∃ k : Nat, x = .int .i64 k ∧ wr = W ∧ Hid (i ≤ (k : Int) ∧ ∀ j : Nat, j < k → i ≤ (j : Int) → bt l j = false)) (fun x _ => l.length - (intOf x).toNat)
    case atStart => exact ⟨j0, by have := H2.out; first | (rw [this]; rfl) | (rw [this.2]) | (rw [this]), rfl, HG.out⟩
    case round =>
      obtain ⟨k, rfl, rfl, hk⟩ := hrel
      by_cases hlt : k < l.length
      · obtain ⟨b, off, rfl, hb, c1⟩ := HH.out k hlt
        cases hbt : bt l k with
        | true =>
          rw [hbt] at c1
          have hv := next_yes hlt hk.out.1 hbt hk.out.2
          have HV := Lib_hid hv
          clear hv hbt
          go_wp2
          go_ret2
          exact ⟨by unfold nextV; rw [HV.out]; rfl, hb0⟩
        | false =>
          rw [hbt] at c1
          have HK : Hid (i ≤ ((k + 1 : Nat) : Int) ∧ ∀ j : Nat, j < k + 1 → i ≤ (j : Int) → bt l j = false) := ⟨by have := hk.out.1; omega, fun j hj hij => by
            rcases Nat.lt_or_ge j k with h | h
            · exact hk.out.2 j h hij
            · have e : j = k := by omega
              rw [e]; exact hbt⟩
          clear hbt hk
          go_wp2
          go_roundw
          case rel => exact ⟨k + 1, by go_num, trivial, HK⟩
          case measure => simp [intOf]; omega
      · have hv : nextB l i = (0, false) := next_no fun j hj hij => hk.out.2 j (by omega) hij
        have HV := Lib_hid hv
        clear hv hk
        go_wp2
        go_ret2
        exact ⟨by unfold nextV; rw [HV.out]; rfl, hb0⟩

end Go.Proofs.YtiembenkdldklaaDoor
