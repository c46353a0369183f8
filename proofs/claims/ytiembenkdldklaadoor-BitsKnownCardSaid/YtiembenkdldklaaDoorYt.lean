/-
  Layer 8: the program's Within of no set, and its Next.
-/
import Derived.Test.YtiembenkdldklaaDoorYs
namespace Go.Proofs.YtiembenkdldklaaDoor
open Go Go.RowKit Go.Shelf
set_option linter.unusedVariables false

attribute [local go_sem] Oper.semAt_some

/-- The digits from fr on, in the word at j. -/
theorem from_bit (l : List Bool) (fr j : Nat) {i : Nat} (hi : i < 64) : (andN (wl l j) (blw ((fr : Int) - (64 * j : Nat)))).testBit i = (bt l (64 * j + i) && decide (fr ≤ 64 * j + i)) := by
  have hb : blw ((fr : Int) - (64 * j : Nat)) < 18446744073709551616 := by
    unfold blw
    exact below_lt (Nat.min_le_right _ _)
  rw [andN_bit hb hi, wl, wd_bit]
  unfold blw
  rw [below_bit (Nat.min_le_right _ _) hi]
  have e : decide (i < min ((fr : Int) - (64 * j : Nat)).toNat 64) = !decide (fr ≤ 64 * j + i) := by
    rw [Bool.eq_iff_iff]; simp; omega
  rw [e]
  simp [hi]
theorem from_zero {l : List Bool} {fr j : Nat} (h : andN (wl l j) (blw ((fr : Int) - (64 * j : Nat))) = 0) {i : Nat} (h1 : 64 * j ≤ i) (h2 : i < 64 * (j + 1)) (h3 : fr ≤ i) : bt l i = false := by
  have := from_bit l fr j (i := i - 64 * j) (by omega)
  rw [h, show 64 * j + (i - 64 * j) = i by omega] at this
  simpa [h3] using this.symm
theorem from_least {l : List Bool} {fr j : Nat} {i : Int} (h : andN (wl l j) (blw ((fr : Int) - (64 * j : Nat))) ≠ 0) (hfr : fr = max i 0) (hn : ∀ k, k < 64 * j → fr ≤ k → bt l k = false) :
    nextB l i = (64 * j + Lib.ctz 64 (andN (wl l j) (blw ((fr : Int) - (64 * j : Nat)))), true) := by
  have hlt : andN (wl l j) (blw ((fr : Int) - (64 * j : Nat))) < 18446744073709551616 := andN_lt (wl_lt l j)
  have hb := fun i hi => from_bit l fr j (i := i) hi
  obtain ⟨c1, c2, c3, _⟩ := ctz_spec h hlt
  generalize andN (wl l j) (blw ((fr : Int) - (64 * j : Nat))) = z at *
  generalize Lib.ctz 64 z = k at *
  have h5 := hb k c1
  rw [c2] at h5
  have h6 : bt l (64 * j + k) = true ∧ fr ≤ 64 * j + k := by
    have := h5.symm
    simpa using this
  refine next_yes ?_ (by omega) h6.1 fun q hq hiq => ?_
  · rcases Nat.lt_or_ge (64 * j + k) l.length with h | h
    · exact h
    · have := h6.1
      rw [bt_ge h] at this; cases this
  · have hfq : fr ≤ q := by omega
    by_cases h7 : q < 64 * j
    · exact hn q h7 hfq
    · have h8 := hb (q - 64 * j) (by omega)
      rw [c3 _ (by omega), show 64 * j + (q - 64 * j) = q by omega] at h8
      simpa [hfq] using h8.symm

/-- The two boxes of the walk over no words. -/
theorem nil_world (W : World) (F : Int) : ∃ W3, W3 = (W.alloc (.cells #[.pointer none] 26)).alloc (.cells #[.int .i64 F] 3) ∧ W3.heap.size = W.heap.size + 2 ∧ Below W.heap.size W W3 ∧ W3.cell? ⟨W.heap.size, 0, none⟩ = some (.pointer none) := by
  refine ⟨_, rfl, by simp, (below_new W _).alloc (below_new W _).size _, ?_⟩
  exact cell_of_row _ _ 0 _ _ _ ((heap_alloc_old _ _ (by simp)).trans (heap_alloc_new W _))

set_option maxRecDepth 100000 in
set_option maxHeartbeats 1000000 in
theorem pwithin_nil (s : Value) (m : List Bool) (w : World) (h' : Oth w w.heap.size s m) : Calls Tryd.prog 22 #[.pointer none, s] w fun e w' => e = .returned (.bool true) ∧ Below w.heap.size w w' := by
  have hptr := h'.ptr
  clear h'
  have hb0 : Below w.heap.size w ((w.alloc (.cells #[s] 26)).alloc (.cells #[.bool false] 4)) := (below_new w _).alloc (below_new w _).size _
  have x9 : ((w.alloc (.cells #[s] 26)).alloc (.cells #[.bool false] 4)).heap[w.heap.size + 1]? = some (.cells #[.bool false] 4 (0, 0)) := by
    have := heap_alloc_new (w.alloc (.cells #[s] 26)) (.cells #[.bool false] 4)
    rwa [World.size_alloc] at this
  obtain ⟨W3, hW3, hs3, hb3, hc3⟩ := nil_world ((w.alloc (.cells #[s] 26)).alloc (.cells #[.bool false] 4)) 0
  simp only [World.size_alloc] at hs3 hb3 hc3
  have hbW : Below w.heap.size w W3 := hb0.trans (hb3.mono (by omega))
  have y9 := (hb3.block _ (by omega)).trans x9
  have hWC := fun W => words_any (.pointer none) 0 (.inl rfl) W
  have HW3 := Lib_hid hW3
  clear hW3 hb0 x9
  refine (callsIn_wide (n := 3)).1 (callsIn_of_wp_marks Tryd.func22 rfl trivial ?_ rfl)
  simp only [Tryd.ntmps22, List.size_toArray, List.length_cons, List.length_nil, Nat.reduceAdd, Nat.reduceSub, Array.replicate_succ, Array.replicate_zero, List.push_toArray, List.append_toArray, List.nil_append, List.cons_append]
  rcases hptr with rfl | ⟨q, rfl⟩
  all_goals
    gi_wp2
    refine ⟨trivial, (callsIn_wide.2 (hWC _)).mono ?_⟩
    rintro e w1 ⟨rfl, rfl⟩
    gi_wp2
    rw [← HW3.out]
    refine range_nil (m := 3) (b1 := w.heap.size + 1 + 1) (b2 := w.heap.size + 1 + 1 + 1) rfl hc3 (by omega) ?_
    intro W hb hD
    have z9 := (hb.block _ (by omega)).trans y9
    have q9 := cell_of_row _ _ 0 _ _ _ z9
    have f9 := frozen_of_row _ _ 0 _ _ z9
    have hbX := hbW.trans (hb.mono hbW.size)
    have HD := Lib_hid hD
    clear hD
    gi_wp2
    refine box_fin (w := w) _ rfl (by rw [heap_setCell_same _ (w.heap.size + 1) 0 _ _ _ z9]; rfl) (by omega) (hbX.setCell (p := ⟨w.heap.size + 1, 0, none⟩) (by show w.heap.size ≤ w.heap.size + 1; omega) _) (by omega) ((heap_setCell_other _ _ _ _ (by show W3.heap.size ≠ w.heap.size + 1; omega)).trans HD.out) _ rfl

/-- At Next's end: both answers are read. -/
theorem two_fin {w X : World} {H : Nat} {l : List Bool} {i : Int} (h1 : X.heap[w.heap.size]? = some (.cells #[.int .i64 ((nextB l i).1 : Int)] 3 (0, 0))) (h2 : X.heap[w.heap.size + 1]? = some (.cells #[.bool (nextB l i).2] 4 (0, 0)))
    (hH : w.heap.size + 2 ≤ H) (hb : Below w.heap.size w X) (hD : X.heap[H]? = some (.deferred (some []))) :
    ∀ tmps : Array Value, tmps.getD 4 undef = .pointer (some ⟨w.heap.size, 0, none⟩) → tmps.getD 5 undef = .pointer (some ⟨w.heap.size + 1, 0, none⟩) →
      bodyPostM Fence.wide 3 Tryd.prog Tryd.f28 (fun e w' => e = .returned (nextV l i) ∧ Below w.heap.size w w') .ret { tmps := tmps, defers := [{ target := .collected H, args := #[] }] } X := by
  intro tmps t1 t2
  rw [Array.getD_eq_getD_getElem?] at t1 t2
  have hg := grownBy_putObj' X H (.deferred none)
  have c1 := cell_of_row _ w.heap.size 0 _ _ _ ((hg.block _ (Array.getElem?_eq_some_iff.1 h1).1 (fun e => by injection e with e; omega)).trans h1)
  have c2 := cell_of_row _ (w.heap.size + 1) 0 _ _ _ ((hg.block _ (Array.getElem?_eq_some_iff.1 h2).1 (fun e => by injection e with e; omega)).trans h2)
  have hb2 := hb.grown hg hb.size (fun k hk => by injection hk with hk; omega)
  refine ⟨by simp, .inl ⟨_, _, rfl, run_takeDeferred hD, ?_⟩⟩
  generalize X.putObj H (.deferred none) = Y at *
  exact ⟨nextV l i, by simp [results, Tryd.results28, go_sem, t1, t2, c1, c2, nextV], rfl, hb2⟩

set_option maxRecDepth 100000 in
set_option maxHeartbeats 2000000 in
theorem pnext_neg (lo hi p : Nat) (l : List Bool) (i : Int) (fr0 : Nat) (w : World) (h : BZ w lo hi p l) (hT : BTab w) (hi0 : i < 0 ∧ fr0 = 0) : Calls Tryd.prog 28 #[pv p, .int .i64 i] w fun e w' => e = .returned (nextV l i) ∧ Below w.heap.size w w' := by
  obtain ⟨A, c, h, _⟩ := h
  obtain ⟨W0, hW0⟩ : ∃ W0, W0 = ((w.alloc (.cells #[.int .i64 0] 3)).alloc (.cells #[.bool false] 4)).alloc (.cells #[.int .i64 (0 : Int)] 3) := ⟨_, rfl⟩
  have hs0 : W0.heap.size = w.heap.size + 3 := by rw [hW0]; simp
  have hb0 : Below w.heap.size w W0 := by rw [hW0]; exact ((below_new w _).alloc (below_new w _).size _).alloc (by simp; omega) _
  have x7 : W0.heap[w.heap.size]? = some (.cells #[.int .i64 0] 3 (0, 0)) := by rw [hW0]; exact (heap_alloc_old _ _ (by simp; omega)).trans ((heap_alloc_old _ _ (by simp)).trans (heap_alloc_new w _))
  have x8 : W0.heap[w.heap.size + 1]? = some (.cells #[.bool false] 4 (0, 0)) := by
    rw [hW0]; refine (heap_alloc_old _ _ (by simp)).trans ?_
    have := heap_alloc_new (w.alloc (.cells #[.int .i64 0] 3)) (.cells #[.bool false] 4)
    rwa [World.size_alloc] at this
  have x9 : W0.heap[w.heap.size + 2]? = some (.cells #[.int .i64 (0 : Int)] 3 (0, 0)) := by
    rw [hW0]
    have := heap_alloc_new ((w.alloc (.cells #[.int .i64 0] 3)).alloc (.cells #[.bool false] 4)) (.cells #[.int .i64 (0 : Int)] 3)
    rwa [World.size_alloc, World.size_alloc] at this
  obtain ⟨W3, hW3, hs3, hb3, hS3, x1, x2⟩ := words_world (0 : Int) h hb0 hb0.size
  rw [hW0] at hW3
  rw [hs0] at hs3 x1 x2 hb3
  have y7 := (hb3.block _ (by omega)).trans x7
  have y8 := (hb3.block _ (by omega)).trans x8
  have y9 := (hb3.block _ (by omega)).trans x9
  have hbW : Below w.heap.size w W3 := hb0.trans (hb3.mono (by omega))
  have hfm : fr0 = max i 0 := by omega
  have h6 := h.le
  have hcap := hS3.cap
  have hrl := fun k (hk : ob A = some k) => h.row_lt hk
  have hWC := fun W => words_any (pv p) (0 : Int) (.inr ⟨p, rfl⟩) W
  have HW3 := Lib_hid hW3
  have HFM := Lib_hid (And.intro hfm hi0)
  have hT3 := hT.below hbW hT.1
  have hFD : (0 : Int) = ((fr0 / 64 : Nat) : Int) := by omega
  have hFF : (0 : Int) = (fr0 : Int) := by omega
  have hw1 := hT.1
  have hfr9 : fr0 ≤ 9223372036854775807 := by omega
  have HFX := Lib_hid (And.intro hFD hFF)
  clear hW3 x7 x8 x9 hb0 hW0 hfm hT hFD hFF
  have hn6 : nw l.length ≤ 1000000 := by unfold nw; omega
  refine (callsIn_wide (n := 3)).1 (callsIn_of_wp_marks Tryd.func28 rfl trivial ?_ rfl)
  simp only [Tryd.ntmps28, List.size_toArray, List.length_cons, List.length_nil, Nat.reduceAdd, Nat.reduceSub, Array.replicate_succ, Array.replicate_zero, List.push_toArray, List.append_toArray, List.nil_append, List.cons_append]
  gi_wp2
  refine ⟨trivial, (callsIn_wide.2 (hWC _)).mono ?_⟩
  rintro e w1 ⟨rfl, rfl⟩
  gi_wp2
  rw [← HW3.out]
  refine range_words (m := 3) (b1 := w.heap.size + 3) (b2 := w.heap.size + 4) (p := p) (n := nw l.length) (fr := fr0 / 64) (c := c) (A := A) (ws := wl l) rfl rfl hn6 (by omega) hcap
    (fun j W => Turns (fun _ => False) W3 W ∧ Hid (∀ i, i < 64 * j → fr0 ≤ i → bt l i = false)) (fun cc _ W => cc = .ret ∧ W.heap[w.heap.size]? = some (.cells #[.int .i64 ((nextB l i).1 : Int)] 3 (0, 0)) ∧ W.heap[w.heap.size + 1]? = some (.cells #[.bool (nextB l i).2] 4 (0, 0)) ∧ Turns (fun k => k = w.heap.size ∨ k = w.heap.size + 1) W3 W) ?_ ?_ ?_ ⟨Turns.refl _ _, fun i hi => by omega⟩ ?_ ?_ ?_
  · rintro j W ⟨t, _⟩
    exact it_of HFX.out.1 (hS3.keep (t.block _ (by have := hS3.lt; omega) (fun h => h)) fun k hk => t.block _ (hS3.row_lt hk) (fun h => h)) ((t.block _ (by omega) (fun h => h)).trans x1) ((t.block _ (by omega) (fun h => h)).trans x2) j
  · rintro j X Y r ⟨t, h1⟩ hr1 hr2 hg
    exact ⟨t.newer hg hr1, h1⟩
  · rintro cc j X Y r ⟨h1, h2, h3, t⟩ hr1 hr2 hg
    exact ⟨h1, (hg.block _ (Array.getElem?_eq_some_iff.1 h2).1 (fun e => by injection e with e; omega)).trans h2, (hg.block _ (Array.getElem?_eq_some_iff.1 h3).1 (fun e => by injection e with e; omega)).trans h3, t.newer hg hr1⟩
  · rintro j W ⟨t, hin⟩ hsz _ hj
    have hx := wl_lt l j
    have hfz := fun hz i h1 h2 h3 => from_zero (l := l) (fr := fr0) (j := j) hz (i := i) h1 h2 h3
    have hfl := fun hz => from_least (l := l) (fr := fr0) (j := j) (i := i) hz HFM.out.1 hin.out
    have hby : blw ((fr0 : Int) - (64 * j : Nat)) < 18446744073709551616 := by unfold blw; exact below_lt (Nat.min_le_right _ _)
    have hbits := bits_not_u64_nat _ _ hx hby
    have hzl : andN (wl l j) (blw ((fr0 : Int) - (64 * j : Nat))) < 18446744073709551616 := andN_lt hx
    obtain ⟨y, hyy⟩ : ∃ y, y = blw ((fr0 : Int) - (64 * j : Nat)) := ⟨_, rfl⟩
    have hBL : ∀ W, Calls Tryd.prog 48 #[.int .i64 ((fr0 : Int) - (64 * j : Nat))] W (fun e w' => e = .returned (.int .u64 (y : Int)) ∧ w' = W) := fun W => by rw [hyy]; exact below_any _ W
    rw [← hyy] at hby hbits hzl
    simp only [← hyy] at hfz hfl
    have HFZ := Lib_hid hfz
    have HFL := Lib_hid hfl
    rw [← HFX.out.2] at hBL
    have he : ((0 : Int) - ((64 * j : Nat) : Int)) = -((j : Int) * 64) := by omega
    rw [he] at hBL
    clear he
    have HBL := Lib_hid hBL
    have hj2 : j ≤ 1024 := by unfold nw at hj; omega
    have ht0 := t.size
    clear hx hby hfz hfl h hS3 hrl x1 x2 hBL
    generalize hzz : (andN (wl l j) y : Nat) = z at *
    generalize (wl l j : Nat) = x at *
    clear hzz hyy
    gi_wp2
    refine ⟨KeepD.refl _ _, fun w₂ hg2 => ?_⟩
    have t2 := t.newer hg2 (by omega)
    have hz2 := hg2.size
    have hb5 : Below w.heap.size w w₂ := hbW.trans (t2.below hbW.size (fun k e => e.elim))
    have z7 := (t2.block _ (by omega) (fun h => h)).trans y7
    have z8 := (t2.block _ (by omega) (fun h => h)).trans y8
    have q9 := cell_of_row _ _ 0 _ _ _ ((t2.block _ (by omega) (fun h => h)).trans y9)
    have q7 := cell_of_row _ _ 0 _ _ _ z7
    have f7 := frozen_of_row _ _ 0 _ _ z7
    have q8 := cell_of_row _ _ 0 _ _ _ z8
    have f8 := frozen_of_row _ _ 0 _ _ z8
    have hTT := hT3.turns t2 (fun h => h)
    have H2 := Lib_hid (And.intro t2 (And.intro hz2 (And.intro hb5 (And.intro z7 (And.intro z8 hTT)))))
    clear t2 t hg2 hb5 z7 z8 hTT
    by_cases hz0 : z = 0
    · have hd : ((z : Int) != 0) = false := by rw [hz0]; rfl
      have HIN : Hid (∀ i, i < 64 * (j + 1) → fr0 ≤ i → bt l i = false) := fun i hi hl => by
        by_cases h1 : i < 64 * j
        · exact hin.out i h1 hl
        · exact HFZ.out hz0 i (by omega) hi hl
      clear hin hz0 HFL
      gi_wp2
      refine ⟨trivial, (CallsIn.inRound _ (callsIn_wide.2 (HBL.out _))).mono ?_⟩
      rintro e w5 ⟨rfl, rfl⟩
      gi_wp2
      exact ⟨KeepD.refl _ _, H2.out.1, HIN⟩
    · have hd : ((z : Int) != 0) = true := by simp; omega
      have hnx := HFL.out hz0
      have HLE := Lib_hid (fun (W : World) (hW : BTab W) => least_any j z hz0 hzl (by omega) W hW)
      have HNX := Lib_hid hnx
      clear hin hz0 HFL hnx
      gi_wp2
      refine ⟨trivial, (CallsIn.inRound _ (callsIn_wide.2 (HBL.out _))).mono ?_⟩
      rintro e w5 ⟨rfl, rfl⟩
      gi_wp2
      refine ⟨trivial, (CallsIn.inRound _ (callsIn_wide.2 (HLE.out _ H2.out.2.2.2.2.2))).mono ?_⟩
      rintro e w6 ⟨rfl, rfl⟩
      generalize (64 * j + Lib.ctz 64 z : Nat) = k at *
      gi_wp2
      have tt : Turns (fun k => k = w.heap.size ∨ k = w.heap.size + 1) w6 ((w6.setCell ⟨w.heap.size, 0, none⟩ (.int .i64 (k : Int))).setCell ⟨w.heap.size + 1, 0, none⟩ (.bool true)) :=
        ((turns_setCell w6 w.heap.size 0 (.int .i64 (k : Int))).mono fun _ e => .inl e).trans_ ((turns_setCell _ (w.heap.size + 1) 0 (.bool true)).mono fun _ e => .inr e)
      rw [HNX.out]
      refine ⟨KeepD.turns tt (by omega) (by omega), rfl, ?_, ?_, (H2.out.1.mono fun _ e => e.elim).trans_ tt⟩
      · refine (heap_setCell_other _ _ _ _ (by show w.heap.size ≠ w.heap.size + 1; omega)).trans ?_
        rw [heap_setCell_same _ w.heap.size 0 _ _ _ H2.out.2.2.2.1]; rfl
      · rw [heap_setCell_same _ (w.heap.size + 1) 0 _ _ _ ((heap_setCell_other _ _ _ _ (by show w.heap.size + 1 ≠ w.heap.size; omega)).trans H2.out.2.2.2.2.1)]; rfl
  · rintro W ⟨t, hin⟩ hD
    have z7 := (t.block _ (by omega) (fun h => h)).trans y7
    have z8 := (t.block _ (by omega) (fun h => h)).trans y8
    have q7 := cell_of_row _ _ 0 _ _ _ z7
    have f7 := frozen_of_row _ _ 0 _ _ z7
    have q8 := cell_of_row _ _ 0 _ _ _ z8
    have f8 := frozen_of_row _ _ 0 _ _ z8
    have hbX : Below w.heap.size w W := hbW.trans (t.below hbW.size (fun k e => e.elim))
    have hv : nextB l i = (0, false) := next_no fun k hk hik => by
      refine hin.out k ?_ (by have := HFM.out.1; omega)
      have : k < 64 * nw l.length := by unfold nw; omega
      have h2 : nw l.length ≤ max (fr0 / 64) (nw l.length) := Nat.le_max_right _ _
      omega
    have HV := Lib_hid hv
    have HD := Lib_hid hD
    have ht0 := t.size
    clear hin hD hv
    gi_wp2
    have hfin := two_fin (w := w) (X := (W.setCell ⟨w.heap.size, 0, none⟩ (.int .i64 0)).setCell ⟨w.heap.size + 1, 0, none⟩ (.bool false)) (H := W3.heap.size) (l := l) (i := i)
      (by rw [HV.out]; exact (heap_setCell_other _ _ _ _ (by show w.heap.size ≠ w.heap.size + 1; omega)).trans (by rw [heap_setCell_same _ w.heap.size 0 _ _ _ z7]; rfl))
      (by rw [HV.out, heap_setCell_same _ (w.heap.size + 1) 0 _ _ _ ((heap_setCell_other _ _ _ _ (by show w.heap.size + 1 ≠ w.heap.size; omega)).trans z8)]; rfl) (by omega)
      ((hbX.setCell (p := ⟨w.heap.size, 0, none⟩) (Nat.le_refl _) _).setCell (p := ⟨w.heap.size + 1, 0, none⟩) (by show w.heap.size ≤ w.heap.size + 1; omega) _)
      ((heap_setCell_other _ _ _ _ (by show W3.heap.size ≠ w.heap.size + 1; omega)).trans ((heap_setCell_other _ _ _ _ (by show W3.heap.size ≠ w.heap.size; omega)).trans HD.out))
    exact hfin _ rfl rfl
  · rintro cc j W _ _ ⟨rfl, h2, h3, t⟩ hD
    have hbX : Below w.heap.size w W := hbW.trans (t.below hbW.size (fun k e => by omega))
    have HD := Lib_hid hD
    have H2 := Lib_hid (And.intro h2 h3)
    clear hD h2 h3
    gi_wp2
    exact two_fin (w := w) H2.out.1 H2.out.2 (by omega) hbX HD.out _ rfl rfl

set_option maxRecDepth 100000 in
set_option maxHeartbeats 2000000 in
theorem pnext_zero (lo hi p : Nat) (l : List Bool) (i : Int) (fr0 : Nat) (w : World) (h : BZ w lo hi p l) (hT : BTab w) (hi0 : i = 0 ∧ fr0 = 0) : Calls Tryd.prog 28 #[pv p, .int .i64 i] w fun e w' => e = .returned (nextV l i) ∧ Below w.heap.size w w' := by
  obtain ⟨A, c, h, _⟩ := h
  obtain ⟨W0, hW0⟩ : ∃ W0, W0 = ((w.alloc (.cells #[.int .i64 0] 3)).alloc (.cells #[.bool false] 4)).alloc (.cells #[.int .i64 (0 : Int)] 3) := ⟨_, rfl⟩
  have hs0 : W0.heap.size = w.heap.size + 3 := by rw [hW0]; simp
  have hb0 : Below w.heap.size w W0 := by rw [hW0]; exact ((below_new w _).alloc (below_new w _).size _).alloc (by simp; omega) _
  have x7 : W0.heap[w.heap.size]? = some (.cells #[.int .i64 0] 3 (0, 0)) := by rw [hW0]; exact (heap_alloc_old _ _ (by simp; omega)).trans ((heap_alloc_old _ _ (by simp)).trans (heap_alloc_new w _))
  have x8 : W0.heap[w.heap.size + 1]? = some (.cells #[.bool false] 4 (0, 0)) := by
    rw [hW0]; refine (heap_alloc_old _ _ (by simp)).trans ?_
    have := heap_alloc_new (w.alloc (.cells #[.int .i64 0] 3)) (.cells #[.bool false] 4)
    rwa [World.size_alloc] at this
  have x9 : W0.heap[w.heap.size + 2]? = some (.cells #[.int .i64 (0 : Int)] 3 (0, 0)) := by
    rw [hW0]
    have := heap_alloc_new ((w.alloc (.cells #[.int .i64 0] 3)).alloc (.cells #[.bool false] 4)) (.cells #[.int .i64 (0 : Int)] 3)
    rwa [World.size_alloc, World.size_alloc] at this
  obtain ⟨W3, hW3, hs3, hb3, hS3, x1, x2⟩ := words_world (0 : Int) h hb0 hb0.size
  rw [hW0] at hW3
  rw [hs0] at hs3 x1 x2 hb3
  have y7 := (hb3.block _ (by omega)).trans x7
  have y8 := (hb3.block _ (by omega)).trans x8
  have y9 := (hb3.block _ (by omega)).trans x9
  have hbW : Below w.heap.size w W3 := hb0.trans (hb3.mono (by omega))
  have hfm : fr0 = max i 0 := by omega
  have h6 := h.le
  have hcap := hS3.cap
  have hrl := fun k (hk : ob A = some k) => h.row_lt hk
  have hWC := fun W => words_any (pv p) (0 : Int) (.inr ⟨p, rfl⟩) W
  have HW3 := Lib_hid hW3
  have HFM := Lib_hid (And.intro hfm hi0)
  have hT3 := hT.below hbW hT.1
  have hFD : (0 : Int) = ((fr0 / 64 : Nat) : Int) := by omega
  have hFF : (0 : Int) = (fr0 : Int) := by omega
  have hw1 := hT.1
  have hfr9 : fr0 ≤ 9223372036854775807 := by omega
  have HFX := Lib_hid (And.intro hFD hFF)
  clear hW3 x7 x8 x9 hb0 hW0 hfm hT hFD hFF
  have hn6 : nw l.length ≤ 1000000 := by unfold nw; omega
  refine (callsIn_wide (n := 3)).1 (callsIn_of_wp_marks Tryd.func28 rfl trivial ?_ rfl)
  simp only [Tryd.ntmps28, List.size_toArray, List.length_cons, List.length_nil, Nat.reduceAdd, Nat.reduceSub, Array.replicate_succ, Array.replicate_zero, List.push_toArray, List.append_toArray, List.nil_append, List.cons_append]
  gi_wp2
  refine ⟨trivial, (callsIn_wide.2 (hWC _)).mono ?_⟩
  rintro e w1 ⟨rfl, rfl⟩
  gi_wp2
  rw [← HW3.out]
  refine range_words (m := 3) (b1 := w.heap.size + 3) (b2 := w.heap.size + 4) (p := p) (n := nw l.length) (fr := fr0 / 64) (c := c) (A := A) (ws := wl l) rfl rfl hn6 (by omega) hcap
    (fun j W => Turns (fun _ => False) W3 W ∧ Hid (∀ i, i < 64 * j → fr0 ≤ i → bt l i = false)) (fun cc _ W => cc = .ret ∧ W.heap[w.heap.size]? = some (.cells #[.int .i64 ((nextB l i).1 : Int)] 3 (0, 0)) ∧ W.heap[w.heap.size + 1]? = some (.cells #[.bool (nextB l i).2] 4 (0, 0)) ∧ Turns (fun k => k = w.heap.size ∨ k = w.heap.size + 1) W3 W) ?_ ?_ ?_ ⟨Turns.refl _ _, fun i hi => by omega⟩ ?_ ?_ ?_
  · rintro j W ⟨t, _⟩
    exact it_of HFX.out.1 (hS3.keep (t.block _ (by have := hS3.lt; omega) (fun h => h)) fun k hk => t.block _ (hS3.row_lt hk) (fun h => h)) ((t.block _ (by omega) (fun h => h)).trans x1) ((t.block _ (by omega) (fun h => h)).trans x2) j
  · rintro j X Y r ⟨t, h1⟩ hr1 hr2 hg
    exact ⟨t.newer hg hr1, h1⟩
  · rintro cc j X Y r ⟨h1, h2, h3, t⟩ hr1 hr2 hg
    exact ⟨h1, (hg.block _ (Array.getElem?_eq_some_iff.1 h2).1 (fun e => by injection e with e; omega)).trans h2, (hg.block _ (Array.getElem?_eq_some_iff.1 h3).1 (fun e => by injection e with e; omega)).trans h3, t.newer hg hr1⟩
  · rintro j W ⟨t, hin⟩ hsz _ hj
    have hx := wl_lt l j
    have hfz := fun hz i h1 h2 h3 => from_zero (l := l) (fr := fr0) (j := j) hz (i := i) h1 h2 h3
    have hfl := fun hz => from_least (l := l) (fr := fr0) (j := j) (i := i) hz HFM.out.1 hin.out
    have hby : blw ((fr0 : Int) - (64 * j : Nat)) < 18446744073709551616 := by unfold blw; exact below_lt (Nat.min_le_right _ _)
    have hbits := bits_not_u64_nat _ _ hx hby
    have hzl : andN (wl l j) (blw ((fr0 : Int) - (64 * j : Nat))) < 18446744073709551616 := andN_lt hx
    obtain ⟨y, hyy⟩ : ∃ y, y = blw ((fr0 : Int) - (64 * j : Nat)) := ⟨_, rfl⟩
    have hBL : ∀ W, Calls Tryd.prog 48 #[.int .i64 ((fr0 : Int) - (64 * j : Nat))] W (fun e w' => e = .returned (.int .u64 (y : Int)) ∧ w' = W) := fun W => by rw [hyy]; exact below_any _ W
    rw [← hyy] at hby hbits hzl
    simp only [← hyy] at hfz hfl
    have HFZ := Lib_hid hfz
    have HFL := Lib_hid hfl
    rw [← HFX.out.2] at hBL
    have he : ((0 : Int) - ((64 * j : Nat) : Int)) = -((j : Int) * 64) := by omega
    rw [he] at hBL
    clear he
    have HBL := Lib_hid hBL
    have hj2 : j ≤ 1024 := by unfold nw at hj; omega
    have ht0 := t.size
    clear hx hby hfz hfl h hS3 hrl x1 x2 hBL
    generalize hzz : (andN (wl l j) y : Nat) = z at *
    generalize (wl l j : Nat) = x at *
    clear hzz hyy
    gi_wp2
    refine ⟨KeepD.refl _ _, fun w₂ hg2 => ?_⟩
    have t2 := t.newer hg2 (by omega)
    have hz2 := hg2.size
    have hb5 : Below w.heap.size w w₂ := hbW.trans (t2.below hbW.size (fun k e => e.elim))
    have z7 := (t2.block _ (by omega) (fun h => h)).trans y7
    have z8 := (t2.block _ (by omega) (fun h => h)).trans y8
    have q9 := cell_of_row _ _ 0 _ _ _ ((t2.block _ (by omega) (fun h => h)).trans y9)
    have q7 := cell_of_row _ _ 0 _ _ _ z7
    have f7 := frozen_of_row _ _ 0 _ _ z7
    have q8 := cell_of_row _ _ 0 _ _ _ z8
    have f8 := frozen_of_row _ _ 0 _ _ z8
    have hTT := hT3.turns t2 (fun h => h)
    have H2 := Lib_hid (And.intro t2 (And.intro hz2 (And.intro hb5 (And.intro z7 (And.intro z8 hTT)))))
    clear t2 t hg2 hb5 z7 z8 hTT
    by_cases hz0 : z = 0
    · have hd : ((z : Int) != 0) = false := by rw [hz0]; rfl
      have HIN : Hid (∀ i, i < 64 * (j + 1) → fr0 ≤ i → bt l i = false) := fun i hi hl => by
        by_cases h1 : i < 64 * j
        · exact hin.out i h1 hl
        · exact HFZ.out hz0 i (by omega) hi hl
      clear hin hz0 HFL
      gi_wp2
      refine ⟨trivial, (CallsIn.inRound _ (callsIn_wide.2 (HBL.out _))).mono ?_⟩
      rintro e w5 ⟨rfl, rfl⟩
      gi_wp2
      exact ⟨KeepD.refl _ _, H2.out.1, HIN⟩
    · have hd : ((z : Int) != 0) = true := by simp; omega
      have hnx := HFL.out hz0
      have HLE := Lib_hid (fun (W : World) (hW : BTab W) => least_any j z hz0 hzl (by omega) W hW)
      have HNX := Lib_hid hnx
      clear hin hz0 HFL hnx
      gi_wp2
      refine ⟨trivial, (CallsIn.inRound _ (callsIn_wide.2 (HBL.out _))).mono ?_⟩
      rintro e w5 ⟨rfl, rfl⟩
      gi_wp2
      refine ⟨trivial, (CallsIn.inRound _ (callsIn_wide.2 (HLE.out _ H2.out.2.2.2.2.2))).mono ?_⟩
      rintro e w6 ⟨rfl, rfl⟩
      generalize (64 * j + Lib.ctz 64 z : Nat) = k at *
      gi_wp2
      have tt : Turns (fun k => k = w.heap.size ∨ k = w.heap.size + 1) w6 ((w6.setCell ⟨w.heap.size, 0, none⟩ (.int .i64 (k : Int))).setCell ⟨w.heap.size + 1, 0, none⟩ (.bool true)) :=
        ((turns_setCell w6 w.heap.size 0 (.int .i64 (k : Int))).mono fun _ e => .inl e).trans_ ((turns_setCell _ (w.heap.size + 1) 0 (.bool true)).mono fun _ e => .inr e)
      rw [HNX.out]
      refine ⟨KeepD.turns tt (by omega) (by omega), rfl, ?_, ?_, (H2.out.1.mono fun _ e => e.elim).trans_ tt⟩
      · refine (heap_setCell_other _ _ _ _ (by show w.heap.size ≠ w.heap.size + 1; omega)).trans ?_
        rw [heap_setCell_same _ w.heap.size 0 _ _ _ H2.out.2.2.2.1]; rfl
      · rw [heap_setCell_same _ (w.heap.size + 1) 0 _ _ _ ((heap_setCell_other _ _ _ _ (by show w.heap.size + 1 ≠ w.heap.size; omega)).trans H2.out.2.2.2.2.1)]; rfl
  · rintro W ⟨t, hin⟩ hD
    have z7 := (t.block _ (by omega) (fun h => h)).trans y7
    have z8 := (t.block _ (by omega) (fun h => h)).trans y8
    have q7 := cell_of_row _ _ 0 _ _ _ z7
    have f7 := frozen_of_row _ _ 0 _ _ z7
    have q8 := cell_of_row _ _ 0 _ _ _ z8
    have f8 := frozen_of_row _ _ 0 _ _ z8
    have hbX : Below w.heap.size w W := hbW.trans (t.below hbW.size (fun k e => e.elim))
    have hv : nextB l i = (0, false) := next_no fun k hk hik => by
      refine hin.out k ?_ (by have := HFM.out.1; omega)
      have : k < 64 * nw l.length := by unfold nw; omega
      have h2 : nw l.length ≤ max (fr0 / 64) (nw l.length) := Nat.le_max_right _ _
      omega
    have HV := Lib_hid hv
    have HD := Lib_hid hD
    have ht0 := t.size
    clear hin hD hv
    gi_wp2
    have hfin := two_fin (w := w) (X := (W.setCell ⟨w.heap.size, 0, none⟩ (.int .i64 0)).setCell ⟨w.heap.size + 1, 0, none⟩ (.bool false)) (H := W3.heap.size) (l := l) (i := i)
      (by rw [HV.out]; exact (heap_setCell_other _ _ _ _ (by show w.heap.size ≠ w.heap.size + 1; omega)).trans (by rw [heap_setCell_same _ w.heap.size 0 _ _ _ z7]; rfl))
      (by rw [HV.out, heap_setCell_same _ (w.heap.size + 1) 0 _ _ _ ((heap_setCell_other _ _ _ _ (by show w.heap.size + 1 ≠ w.heap.size; omega)).trans z8)]; rfl) (by omega)
      ((hbX.setCell (p := ⟨w.heap.size, 0, none⟩) (Nat.le_refl _) _).setCell (p := ⟨w.heap.size + 1, 0, none⟩) (by show w.heap.size ≤ w.heap.size + 1; omega) _)
      ((heap_setCell_other _ _ _ _ (by show W3.heap.size ≠ w.heap.size + 1; omega)).trans ((heap_setCell_other _ _ _ _ (by show W3.heap.size ≠ w.heap.size; omega)).trans HD.out))
    exact hfin _ rfl rfl
  · rintro cc j W _ _ ⟨rfl, h2, h3, t⟩ hD
    have hbX : Below w.heap.size w W := hbW.trans (t.below hbW.size (fun k e => by omega))
    have HD := Lib_hid hD
    have H2 := Lib_hid (And.intro h2 h3)
    clear hD h2 h3
    gi_wp2
    exact two_fin (w := w) H2.out.1 H2.out.2 (by omega) hbX HD.out _ rfl rfl

end Go.Proofs.YtiembenkdldklaaDoor
