/-
  Layer 8: the program's Next, whole.
-/
import Derived.Test.YtiembenkdldklaaDoorYt
namespace Go.Proofs.YtiembenkdldklaaDoor
open Go Go.RowKit Go.Shelf
set_option linter.unusedVariables false

attribute [local go_sem] Oper.semAt_some

set_option maxRecDepth 100000 in
set_option maxHeartbeats 2000000 in
theorem pnext_pos (lo hi p : Nat) (l : List Bool) (i : Int) (fr0 : Nat) (w : World) (h : BZ w lo hi p l) (hT : BTab w) (hi0 : 0 < i ∧ i = (fr0 : Int) ∧ i ≤ 9223372036854775807) : Calls Tryd.prog 28 #[pv p, .int .i64 i] w fun e w' => e = .returned (nextV l i) ∧ Below w.heap.size w w' := by
  obtain ⟨hi1, rfl, hi2⟩ := hi0
  have hi0 := And.intro hi1 hi2
  obtain ⟨A, c, h, _⟩ := h
  obtain ⟨W0, hW0⟩ : ∃ W0, W0 = ((w.alloc (.cells #[.int .i64 0] 3)).alloc (.cells #[.bool false] 4)).alloc (.cells #[.int .i64 (fr0 : Int)] 3) := ⟨_, rfl⟩
  have hs0 : W0.heap.size = w.heap.size + 3 := by rw [hW0]; simp
  have hb0 : Below w.heap.size w W0 := by rw [hW0]; exact ((below_new w _).alloc (below_new w _).size _).alloc (by simp; omega) _
  have x7 : W0.heap[w.heap.size]? = some (.cells #[.int .i64 0] 3 (0, 0)) := by rw [hW0]; exact (heap_alloc_old _ _ (by simp; omega)).trans ((heap_alloc_old _ _ (by simp)).trans (heap_alloc_new w _))
  have x8 : W0.heap[w.heap.size + 1]? = some (.cells #[.bool false] 4 (0, 0)) := by
    rw [hW0]; refine (heap_alloc_old _ _ (by simp)).trans ?_
    have := heap_alloc_new (w.alloc (.cells #[.int .i64 0] 3)) (.cells #[.bool false] 4)
    rwa [World.size_alloc] at this
  have x9 : W0.heap[w.heap.size + 2]? = some (.cells #[.int .i64 (fr0 : Int)] 3 (0, 0)) := by
    rw [hW0]
    have := heap_alloc_new ((w.alloc (.cells #[.int .i64 0] 3)).alloc (.cells #[.bool false] 4)) (.cells #[.int .i64 (fr0 : Int)] 3)
    rwa [World.size_alloc, World.size_alloc] at this
  obtain ⟨W3, hW3, hs3, hb3, hS3, x1, x2⟩ := words_world ((fr0 : Int) / 64) h hb0 hb0.size
  rw [hW0] at hW3
  rw [hs0] at hs3 x1 x2 hb3
  have y7 := (hb3.block _ (by omega)).trans x7
  have y8 := (hb3.block _ (by omega)).trans x8
  have y9 := (hb3.block _ (by omega)).trans x9
  have hbW : Below w.heap.size w W3 := hb0.trans (hb3.mono (by omega))
  have hfm : (fr0 : Int) = max (fr0 : Int) 0 := by omega
  have h6 := h.le
  have hcap := hS3.cap
  have hrl := fun k (hk : ob A = some k) => h.row_lt hk
  have hWC := fun W => words_any (pv p) ((fr0 : Int) / 64) (.inr ⟨p, rfl⟩) W
  have HW3 := Lib_hid hW3
  have HFM := Lib_hid (And.intro hfm hi0)
  have hT3 := hT.below hbW hT.1
  have hFD : ((fr0 : Int) / 64) = ((fr0 / 64 : Nat) : Int) := by omega
  have hFF : (fr0 : Int) = (fr0 : Int) := rfl
  have hw1 := hT.1
  have hfr9 : fr0 ≤ 9223372036854775807 := by omega
  clear hi0
  have HFX := Lib_hid (And.intro hFD hFF)
  clear hW3 x7 x8 x9 hb0 hW0 hfm hT hFD hFF
  have hn6 : nw l.length ≤ 1000000 := by unfold nw; omega
  refine (callsIn_wide (n := 3)).1 (callsIn_of_wp_marks Tryd.func28 rfl trivial ?_ rfl)
  simp only [Tryd.ntmps28, List.size_toArray, List.length_cons, List.length_nil, Nat.reduceAdd, Nat.reduceSub, Array.replicate_succ, Array.replicate_zero, List.push_toArray, List.append_toArray, List.nil_append, List.cons_append]
  gi_wp2
  refine ⟨trivial, (callsIn_wide.2 (hWC _)).mono ?_⟩
  rintro e w1 ⟨rfl, rfl⟩
  gi_wp2
  rw [← HW3.out]
  refine range_words (m := 3) (b1 := w.heap.size + 3) (b2 := w.heap.size + 4) (p := p) (n := nw l.length) (fr := fr0 / 64) (c := c) (A := A) (ws := wl l) rfl rfl hn6 (by omega) hcap
    (fun j W => Turns (fun _ => False) W3 W ∧ Hid (∀ i, i < 64 * j → fr0 ≤ i → bt l i = false)) (fun cc _ W => cc = .ret ∧ W.heap[w.heap.size]? = some (.cells #[.int .i64 ((nextB l (fr0 : Int)).1 : Int)] 3 (0, 0)) ∧ W.heap[w.heap.size + 1]? = some (.cells #[.bool (nextB l (fr0 : Int)).2] 4 (0, 0)) ∧ Turns (fun k => k = w.heap.size ∨ k = w.heap.size + 1) W3 W) ?_ ?_ ?_ ⟨Turns.refl _ _, fun i hi => by omega⟩ ?_ ?_ ?_
  · rintro j W ⟨t, _⟩
    exact it_of HFX.out.1 (hS3.keep (t.block _ (by have := hS3.lt; omega) (fun h => h)) fun k hk => t.block _ (hS3.row_lt hk) (fun h => h)) ((t.block _ (by omega) (fun h => h)).trans x1) ((t.block _ (by omega) (fun h => h)).trans x2) j
  · rintro j X Y r ⟨t, h1⟩ hr1 hr2 hg
    exact ⟨t.newer hg hr1, h1⟩
  · rintro cc j X Y r ⟨h1, h2, h3, t⟩ hr1 hr2 hg
    exact ⟨h1, (hg.block _ (Array.getElem?_eq_some_iff.1 h2).1 (fun e => by injection e with e; omega)).trans h2, (hg.block _ (Array.getElem?_eq_some_iff.1 h3).1 (fun e => by injection e with e; omega)).trans h3, t.newer hg hr1⟩
  · rintro j W ⟨t, hin⟩ hsz _ hj
    have hx := wl_lt l j
    have hfz := fun hz i h1 h2 h3 => from_zero (l := l) (fr := fr0) (j := j) hz (i := i) h1 h2 h3
    have hfl := fun hz => from_least (l := l) (fr := fr0) (j := j) (i := (fr0 : Int)) hz HFM.out.1 hin.out
    have hby : blw ((fr0 : Int) - (64 * j : Nat)) < 18446744073709551616 := by unfold blw; exact below_lt (Nat.min_le_right _ _)
    have hbits := bits_not_u64_nat _ _ hx hby
    have hzl : andN (wl l j) (blw ((fr0 : Int) - (64 * j : Nat))) < 18446744073709551616 := andN_lt hx
    obtain ⟨y, hyy⟩ : ∃ y, y = blw ((fr0 : Int) - (64 * j : Nat)) := ⟨_, rfl⟩
    have hBL : ∀ W, Calls Tryd.prog 48 #[.int .i64 ((fr0 : Int) - (64 * j : Nat))] W (fun e w' => e = .returned (.int .u64 (y : Int)) ∧ w' = W) := fun W => by rw [hyy]; exact below_any _ W
    rw [← hyy] at hby hbits hzl
    simp only [← hyy] at hfz hfl
    have HFZ := Lib_hid hfz
    have HFL := Lib_hid hfl
    have he : ((fr0 : Int) - ((64 * j : Nat) : Int)) = (fr0 : Int) - (j : Int) * 64 := by omega
    rw [he] at hBL
    clear he
    have HBL := Lib_hid hBL
    have hj2 : j ≤ 1024 := by unfold nw at hj; omega
    have hwr : IntKind.i64.wrap ((fr0 : Int) - (j : Int) * 64) = (fr0 : Int) - (j : Int) * 64 := IntWalk.i64_in _ (by omega)
    have ht0 := t.size
    clear hx hby hfz hfl h hS3 hrl x1 x2 hBL
    generalize hzz : (andN (wl l j) y : Nat) = z at *
    generalize (wl l j : Nat) = x at *
    clear hzz hyy
    gi_wp2
    refine ⟨KeepD.refl _ _, fun w₂ hg2 => ?_⟩
    have t2 := t.newer hg2 (by omega)
    have hz2 := hg2.size
    have hb5 : Below w.heap.size w w₂ := hbW.trans (t2.below hbW.size (fun k e => e.elim))
    have z7 := (t2.block _ (by omega) (fun h => h)).trans y7
    have z8 := (t2.block _ (by omega) (fun h => h)).trans y8
    have q9 := cell_of_row _ _ 0 _ _ _ ((t2.block _ (by omega) (fun h => h)).trans y9)
    have q7 := cell_of_row _ _ 0 _ _ _ z7
    have f7 := frozen_of_row _ _ 0 _ _ z7
    have q8 := cell_of_row _ _ 0 _ _ _ z8
    have f8 := frozen_of_row _ _ 0 _ _ z8
    have hTT := hT3.turns t2 (fun h => h)
    have H2 := Lib_hid (And.intro t2 (And.intro hz2 (And.intro hb5 (And.intro z7 (And.intro z8 hTT)))))
    clear t2 t hg2 hb5 z7 z8 hTT
    by_cases hz0 : z = 0
    · have hd : ((z : Int) != 0) = false := by rw [hz0]; rfl
      have HIN : Hid (∀ i, i < 64 * (j + 1) → fr0 ≤ i → bt l i = false) := fun i hi hl => by
        by_cases h1 : i < 64 * j
        · exact hin.out i h1 hl
        · exact HFZ.out hz0 i (by omega) hi hl
      clear hin hz0 HFL
      gi_wp2
      refine ⟨trivial, (CallsIn.inRound _ (callsIn_wide.2 (HBL.out _))).mono ?_⟩
      rintro e w5 ⟨rfl, rfl⟩
      gi_wp2
      exact ⟨KeepD.refl _ _, H2.out.1, HIN⟩
    · have hd : ((z : Int) != 0) = true := by simp; omega
      have hnx := HFL.out hz0
      have HLE := Lib_hid (fun (W : World) (hW : BTab W) => least_any j z hz0 hzl (by omega) W hW)
      have HNX := Lib_hid hnx
      clear hin hz0 HFL hnx
      gi_wp2
      refine ⟨trivial, (CallsIn.inRound _ (callsIn_wide.2 (HBL.out _))).mono ?_⟩
      rintro e w5 ⟨rfl, rfl⟩
      gi_wp2
      refine ⟨trivial, (CallsIn.inRound _ (callsIn_wide.2 (HLE.out _ H2.out.2.2.2.2.2))).mono ?_⟩
      rintro e w6 ⟨rfl, rfl⟩
      generalize (64 * j + Lib.ctz 64 z : Nat) = k at *
      gi_wp2
      have tt : Turns (fun k => k = w.heap.size ∨ k = w.heap.size + 1) w6 ((w6.setCell ⟨w.heap.size, 0, none⟩ (.int .i64 (k : Int))).setCell ⟨w.heap.size + 1, 0, none⟩ (.bool true)) :=
        ((turns_setCell w6 w.heap.size 0 (.int .i64 (k : Int))).mono fun _ e => .inl e).trans_ ((turns_setCell _ (w.heap.size + 1) 0 (.bool true)).mono fun _ e => .inr e)
      rw [HNX.out]
      refine ⟨KeepD.turns tt (by omega) (by omega), rfl, ?_, ?_, (H2.out.1.mono fun _ e => e.elim).trans_ tt⟩
      · refine (heap_setCell_other _ _ _ _ (by show w.heap.size ≠ w.heap.size + 1; omega)).trans ?_
        rw [heap_setCell_same _ w.heap.size 0 _ _ _ H2.out.2.2.2.1]; rfl
      · rw [heap_setCell_same _ (w.heap.size + 1) 0 _ _ _ ((heap_setCell_other _ _ _ _ (by show w.heap.size + 1 ≠ w.heap.size; omega)).trans H2.out.2.2.2.2.1)]; rfl
  · rintro W ⟨t, hin⟩ hD
    have z7 := (t.block _ (by omega) (fun h => h)).trans y7
    have z8 := (t.block _ (by omega) (fun h => h)).trans y8
    have q7 := cell_of_row _ _ 0 _ _ _ z7
    have f7 := frozen_of_row _ _ 0 _ _ z7
    have q8 := cell_of_row _ _ 0 _ _ _ z8
    have f8 := frozen_of_row _ _ 0 _ _ z8
    have hbX : Below w.heap.size w W := hbW.trans (t.below hbW.size (fun k e => e.elim))
    have hv : nextB l (fr0 : Int) = (0, false) := next_no fun k hk hik => by
      refine hin.out k ?_ (by have := HFM.out.1; omega)
      have : k < 64 * nw l.length := by unfold nw; omega
      have h2 : nw l.length ≤ max (fr0 / 64) (nw l.length) := Nat.le_max_right _ _
      omega
    have HV := Lib_hid hv
    have HD := Lib_hid hD
    have ht0 := t.size
    clear hin hD hv
    gi_wp2
    have hfin := two_fin (w := w) (X := (W.setCell ⟨w.heap.size, 0, none⟩ (.int .i64 0)).setCell ⟨w.heap.size + 1, 0, none⟩ (.bool false)) (H := W3.heap.size) (l := l) (i := (fr0 : Int))
      (by rw [HV.out]; exact (heap_setCell_other _ _ _ _ (by show w.heap.size ≠ w.heap.size + 1; omega)).trans (by rw [heap_setCell_same _ w.heap.size 0 _ _ _ z7]; rfl))
      (by rw [HV.out, heap_setCell_same _ (w.heap.size + 1) 0 _ _ _ ((heap_setCell_other _ _ _ _ (by show w.heap.size + 1 ≠ w.heap.size; omega)).trans z8)]; rfl) (by omega)
      ((hbX.setCell (p := ⟨w.heap.size, 0, none⟩) (Nat.le_refl _) _).setCell (p := ⟨w.heap.size + 1, 0, none⟩) (by show w.heap.size ≤ w.heap.size + 1; omega) _)
      ((heap_setCell_other _ _ _ _ (by show W3.heap.size ≠ w.heap.size + 1; omega)).trans ((heap_setCell_other _ _ _ _ (by show W3.heap.size ≠ w.heap.size; omega)).trans HD.out))
    exact hfin _ rfl rfl
  · rintro cc j W _ _ ⟨rfl, h2, h3, t⟩ hD
    have hbX : Below w.heap.size w W := hbW.trans (t.below hbW.size (fun k e => by omega))
    have HD := Lib_hid hD
    have H2 := Lib_hid (And.intro h2 h3)
    clear hD h2 h3
    gi_wp2
    exact two_fin (w := w) H2.out.1 H2.out.2 (by omega) hbX HD.out _ rfl rfl

theorem pnext_any (lo hi p : Nat) (l : List Bool) (i : Int) (w : World) (h : BZ w lo hi p l) (hT : BTab w) (hi : i ≤ 9223372036854775807) : Calls Tryd.prog 28 #[pv p, .int .i64 i] w fun e w' => e = .returned (nextV l i) ∧ Below w.heap.size w w' := by
  rcases Int.lt_trichotomy i 0 with h1 | h1 | h1
  · exact pnext_neg _ _ p l i 0 w h hT ⟨h1, rfl⟩
  · exact pnext_zero _ _ p l i 0 w h hT ⟨h1, rfl⟩
  · exact pnext_pos _ _ p l i i.toNat w h hT ⟨h1, by omega, hi⟩

end Go.Proofs.YtiembenkdldklaaDoor
