/-
  Layer 8: the program's Within.
-/
import Derived.Test.YtiembenkdldklaaDoorYr
import Derived.Test.YtiembenkdldklaaDoorYg
namespace Go.Proofs.YtiembenkdldklaaDoor
open Go Go.RowKit Go.Shelf
set_option linter.unusedVariables false

attribute [local go_sem] Oper.semAt_some

/-- Another set, or none. -/
def Oth (w : World) (B : Nat) (s : Value) (m : List Bool) : Prop := (s = .pointer none ∧ m = []) ∨ ∃ q lo hi, s = pv q ∧ BZ w lo hi q m ∧ hi ≤ B
theorem Oth.below {w w' : World} {B : Nat} {s : Value} {m : List Bool} (h : Oth w B s m) (hb : Below B w w') : Oth w' B s m := by
  rcases h with h | ⟨q, lo, hi, e, h, hB⟩
  · exact .inl h
  · exact .inr ⟨q, lo, hi, e, h.below hb hB, hB⟩
theorem Oth.word {w : World} {B : Nat} {s : Value} {m : List Bool} (h : Oth w B s m) {p : Nat} (hp : p ≤ 1000000) : Calls Tryd.prog 43 #[s, .int .i64 (p : Int)] w fun e w' => e = .returned (.int .u64 (wl m p : Int)) ∧ w' = w := by
  rcases h with ⟨rfl, rfl⟩ | ⟨q, lo, hi, rfl, h, _⟩
  · have : wl [] p = 0 := wl_ge (by show nw 0 ≤ p; unfold nw; omega)
    rw [this]
    exact pword_nil _ _
  · exact pword_any lo hi q m p w h hp
theorem Oth.size {w : World} {B : Nat} {s : Value} {m : List Bool} (h : Oth w B s m) : Calls Tryd.prog 11 #[s] w fun e w' => e = .returned (.int .i64 (m.length : Int)) ∧ w' = w := by
  rcases h with ⟨rfl, rfl⟩ | ⟨q, lo, hi, rfl, h, _⟩
  · exact psize_nil _
  · exact psize_any lo hi q m w h
theorem Oth.ptr {w : World} {B : Nat} {s : Value} {m : List Bool} (h : Oth w B s m) : s = .pointer none ∨ ∃ p, s = pv p := by
  rcases h with ⟨rfl, _⟩ | ⟨q, _, _, rfl, _⟩
  · exact .inl rfl
  · exact .inr ⟨q, rfl⟩

theorem andN_zero {l m : List Bool} {j : Nat} : andN (wl l j) (wl m j) = 0 ↔ ∀ i, i < 64 → bt l (64 * j + i) = true → bt m (64 * j + i) = true := by
  unfold wl
  rw [wd_not, wd_zero]
  constructor
  · intro h i hi hl
    have := h i hi
    simpa [hl] using this
  · intro h i hi
    cases hl : bt l (64 * j + i) with
    | false => simp
    | true => simp [h i hi hl]

/-- At the end of a function with one truth for an answer, in a box. -/
theorem box_fin {w X : World} {H bx : Nat} {b : Bool} {T : TypeId} (f : Func) (hr : f.results = #[.cell 4 4]) (hx : X.heap[bx]? = some (.cells #[.bool b] T (0, 0))) (hH : bx < H) (hb : Below w.heap.size w X) (hw : w.heap.size ≤ H) (hD : X.heap[H]? = some (.deferred (some []))) :
    ∀ tmps : Array Value, tmps.getD 4 undef = .pointer (some ⟨bx, 0, none⟩) →
      bodyPostM Fence.wide 3 Tryd.prog f (fun e w' => e = .returned (.bool b) ∧ Below w.heap.size w w') .ret { tmps := tmps, defers := [{ target := .collected H, args := #[] }] } X := by
  intro tmps t2
  rw [Array.getD_eq_getD_getElem?] at t2
  have hg := grownBy_putObj' X H (.deferred none)
  have h2 := (hg.block bx (Array.getElem?_eq_some_iff.1 hx).1 (fun e => by injection e with e; omega)).trans hx
  have c2 := cell_of_row _ bx 0 _ _ _ h2
  have hb2 := hb.grown hg hb.size (fun k hk => by injection hk with hk; omega)
  refine ⟨by simp, .inl ⟨_, _, rfl, run_takeDeferred hD, ?_⟩⟩
  generalize X.putObj H (.deferred none) = Y at *
  exact ⟨.bool b, by simp [results, hr, go_sem, t2, c2], rfl, hb2⟩

set_option maxRecDepth 100000 in
set_option maxHeartbeats 2000000 in
theorem pwithin_any (lo hi p : Nat) (l m : List Bool) (s : Value) (w : World) (h : BZ w lo hi p l) (h' : Oth w w.heap.size s m) : Calls Tryd.prog 22 #[pv p, s] w fun e w' => e = .returned (.bool (withinB l m)) ∧ Below w.heap.size w w' := by
  obtain ⟨A, c, h, _⟩ := h
  have hb0 : Below w.heap.size w ((w.alloc (.cells #[s] 26)).alloc (.cells #[.bool false] 4)) := (below_new w _).alloc (below_new w _).size _
  have x0 : ((w.alloc (.cells #[s] 26)).alloc (.cells #[.bool false] 4)).heap[w.heap.size]? = some (.cells #[s] 26 (0, 0)) := (heap_alloc_old _ _ (by simp)).trans (heap_alloc_new w _)
  have x9 : ((w.alloc (.cells #[s] 26)).alloc (.cells #[.bool false] 4)).heap[w.heap.size + 1]? = some (.cells #[.bool false] 4 (0, 0)) := by
    have := heap_alloc_new (w.alloc (.cells #[s] 26)) (.cells #[.bool false] 4)
    rwa [World.size_alloc] at this
  obtain ⟨W3, hW3, hs3, hb3, hS3, x1, x2⟩ := words_world 0 h hb0 (by simp; omega)
  simp only [World.size_alloc] at hs3 x1 x2 hb3
  have y0 : W3.heap[w.heap.size]? = some (.cells #[s] 26 (0, 0)) := (hb3.block _ (by omega)).trans x0
  have y9 : W3.heap[w.heap.size + 1]? = some (.cells #[.bool false] 4 (0, 0)) := (hb3.block _ (by omega)).trans x9
  have hbW : Below w.heap.size w W3 := hb0.trans (hb3.mono (by omega))
  have hlt := h.lt
  have h6 := h.le
  have hcap := hS3.cap
  have hrl := fun k (hk : ob A = some k) => h.row_lt hk
  have hWC := fun W => words_any (pv p) 0 (.inr ⟨p, rfl⟩) W
  have HOT := Lib_hid (fun (X : World) (hX : Below w.heap.size w X) (j : Nat) (hj : j ≤ 1000000) => (h'.below hX).word hj)
  have HW3 := Lib_hid hW3
  have hptr := h'.ptr
  clear hW3 x0 x9 hb0 h'
  have hn6 : nw l.length ≤ 1000000 := by unfold nw; omega
  refine (callsIn_wide (n := 3)).1 (callsIn_of_wp_marks Tryd.func22 rfl trivial ?_ rfl)
  simp only [Tryd.ntmps22, List.size_toArray, List.length_cons, List.length_nil, Nat.reduceAdd, Nat.reduceSub, Array.replicate_succ, Array.replicate_zero, List.push_toArray, List.append_toArray, List.nil_append, List.cons_append]
  rcases hptr with rfl | ⟨q, rfl⟩
  all_goals
    gi_wp2
    refine ⟨trivial, (callsIn_wide.2 (hWC _)).mono ?_⟩
    rintro e w1 ⟨rfl, rfl⟩
    gi_wp2
    rw [← HW3.out]
    refine range_words (m := 3) (b1 := w.heap.size + 1 + 1) (b2 := w.heap.size + 1 + 1 + 1) (p := p) (n := nw l.length) (fr := 0) (c := c) (A := A) (ws := wl l) rfl rfl hn6 (by omega) hcap
      (fun j W => Turns (fun _ => False) W3 W ∧ Hid (∀ i, i < 64 * j → bt l i = true → bt m i = true)) (fun cc _ W => cc = .ret ∧ W.heap[w.heap.size + 1]? = some (.cells #[.bool false] 4 (0, 0)) ∧ Turns (fun k => k = w.heap.size + 1) W3 W ∧ withinB l m = false) ?_ ?_ ?_ ⟨Turns.refl _ _, fun i hi => by omega⟩ ?_ ?_ ?_
    · rintro j W ⟨t, _⟩
      exact it_of rfl (hS3.keep (t.block _ (by have := hS3.lt; omega) (fun h => h)) fun k hk => t.block _ (hS3.row_lt hk) (fun h => h)) ((t.block _ (by omega) (fun h => h)).trans x1) ((t.block _ (by omega) (fun h => h)).trans x2) j
    · rintro j X Y r ⟨t, h1⟩ hr1 hr2 hg
      exact ⟨t.newer hg hr1, h1⟩
    · rintro cc j X Y r ⟨h1, h2, t, h3⟩ hr1 hr2 hg
      exact ⟨h1, (hg.block _ (Array.getElem?_eq_some_iff.1 h2).1 (fun e => by injection e with e; omega)).trans h2, t.newer hg hr1, h3⟩
    · rintro j W ⟨t, hin⟩ hsz _ hj
      have hx := wl_lt l j
      have hy := wl_lt m j
      have hz := andN_zero (l := l) (m := m) (j := j)
      have hbits := bits_not_u64_nat _ _ hx hy
      have hzl : andN (wl l j) (wl m j) < 18446744073709551616 := andN_lt hx
      have hb4 : Below w.heap.size w W := hbW.trans (t.below hbW.size (fun k e => e.elim))
      have HZ := Lib_hid hz
      have HC := Lib_hid (fun (X : World) (hX : Below w.heap.size w X) => HOT.out X hX j (by unfold nw at hj; omega))
      have ht0 := t.size
      clear hz hx hy h hS3 hrl x1 x2
      generalize (andN (wl l j) (wl m j) : Nat) = z at *
      generalize (wl l j : Nat) = x at *
      generalize (wl m j : Nat) = y at *
      gi_wp2
      refine ⟨KeepD.refl _ _, fun w₂ hg2 => ?_⟩
      have t2 := t.newer hg2 (by omega)
      have hz2 := hg2.size
      have hb5 : Below w.heap.size w w₂ := hbW.trans (t2.below hbW.size (fun k e => e.elim))
      have q0 := cell_of_row _ _ 0 _ _ _ ((t2.block _ (by omega) (fun h => h)).trans y0)
      have z9 := (t2.block _ (by omega) (fun h => h)).trans y9
      have q9 := cell_of_row _ _ 0 _ _ _ z9
      have f9 := frozen_of_row _ _ 0 _ _ z9
      have H2 := Lib_hid (And.intro t2 (And.intro hz2 (And.intro hb5 z9)))
      clear t2 t hg2 hb5 z9 hb4
      by_cases hz0 : z = 0
      · have hd : ((z : Int) != 0) = false := by rw [hz0]; rfl
        have HIN : Hid (∀ i, i < 64 * (j + 1) → bt l i = true → bt m i = true) := fun i hi hl => by
          by_cases h1 : i < 64 * j
          · exact hin.out i h1 hl
          · have := HZ.out.1 hz0 (i - 64 * j) (by omega)
            rw [show 64 * j + (i - 64 * j) = i by omega] at this
            exact this hl
        have HZ0 := Lib_hid hz0
        clear hin hz0 HZ
        gi_wp2
        refine ⟨trivial, (CallsIn.inRound _ (callsIn_wide.2 (HC.out _ H2.out.2.2.1))).mono ?_⟩
        rintro e w5 ⟨rfl, rfl⟩
        gi_wp2
        exact ⟨KeepD.refl _ _, H2.out.1, HIN⟩
      · have hd : ((z : Int) != 0) = true := by simp; omega
        have HF : Hid (withinB l m = false) := by
          unfold Hid
          cases hw : withinB l m with
          | false => rfl
          | true => exact absurd (HZ.out.2 fun i _ hl => within_iff.1 hw _ hl) hz0
        clear hin hz0 HZ
        gi_wp2
        refine ⟨trivial, (CallsIn.inRound _ (callsIn_wide.2 (HC.out _ H2.out.2.2.1))).mono ?_⟩
        rintro e w5 ⟨rfl, rfl⟩
        gi_wp2
        have tt := turns_setCell w5 (w.heap.size + 1) 0 (.bool false)
        refine ⟨KeepD.turns tt (by omega) (by omega), rfl, ?_, (H2.out.1.mono fun _ e => e.elim).trans_ tt, HF.out⟩
        rw [heap_setCell_same _ (w.heap.size + 1) 0 _ _ _ H2.out.2.2.2]
        rfl
    · rintro W ⟨t, hin⟩ hD
      have z9 := (t.block _ (by omega) (fun h => h)).trans y9
      have q9 := cell_of_row _ _ 0 _ _ _ z9
      have f9 := frozen_of_row _ _ 0 _ _ z9
      have hbX : Below w.heap.size w W := hbW.trans (t.below hbW.size (fun k e => e.elim))
      have hv : withinB l m = true := within_iff.2 fun i hl => by
        by_cases h1 : i < l.length
        · exact hin.out i (by rw [show max 0 (nw l.length) = nw l.length by omega]; unfold nw; omega) hl
        · rw [bt_ge (by omega)] at hl; cases hl
      have HV := Lib_hid hv
      have HD := Lib_hid hD
      have ht0 := t.size
      clear hin hD hv
      gi_wp2
      rw [HV.out]
      refine box_fin (w := w) _ rfl (by rw [heap_setCell_same _ (w.heap.size + 1) 0 _ _ _ z9]; rfl) (by omega) (hbX.setCell (p := ⟨w.heap.size + 1, 0, none⟩) (by show w.heap.size ≤ w.heap.size + 1; omega) _) (by omega) ((heap_setCell_other _ _ _ _ (by show W3.heap.size ≠ w.heap.size + 1; omega)).trans HD.out) _ rfl
    · rintro cc j W _ _ ⟨rfl, h2, t, h3⟩ hD
      have hbX : Below w.heap.size w W := hbW.trans (t.below hbW.size (fun k e => by omega))
      have HV := Lib_hid h3
      clear h3
      gi_wp2
      rw [HV.out]
      exact box_fin (w := w) _ rfl h2 (by omega) hbX (by omega) hD _ rfl

end Go.Proofs.YtiembenkdldklaaDoor
