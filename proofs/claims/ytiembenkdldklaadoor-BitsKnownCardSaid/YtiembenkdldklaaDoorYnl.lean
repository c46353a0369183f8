/-
  Layer 8: the program's functions of no set.
-/
import Derived.Test.YtiembenkdldklaaDoorYy
namespace Go.Proofs.YtiembenkdldklaaDoor
open Go Go.RowKit Go.Shelf
set_option linter.unusedVariables false

attribute [local go_sem] Oper.semAt_some

theorem phas_nil (i : Int) (w : World) : Calls Tryd.prog 27 #[.pointer none, .int .i64 i] w fun e w' => e = .returned (.bool false) ∧ ∃ q, w' = w.drewN q := by
  have HT := Lib_hid (fun q => ptakes_nil i (w.drewN q))
  go_enter Tryd.func27, Tryd.ntmps27
  go_wp2
  go_quiet ((first | (go_at_call 32; refine (HT.out _).mono ?_; rintro e w1 ⟨rfl, rfl⟩; exact ⟨rfl, _, rfl⟩)))
  go_wp2
  go_ret
  exact ⟨rfl, _, rfl⟩
theorem padd_nil (i : Int) (w : World) : Calls Tryd.prog 12 #[.pointer none, .int .i64 i] w fun e w' => e = .returned (.bool false) ∧ w' = w := by
  have HT := Lib_hid (ptakes_nil i w)
  go_enter Tryd.func12, Tryd.ntmps12
  go_wp2_with fail
  refine HT.out.mono ?_
  rintro e w1 ⟨rfl, rfl⟩
  go_wp2
  go_ret
  exact ⟨rfl, rfl⟩
theorem prem_nil (i : Int) (w : World) : Calls Tryd.prog 29 #[.pointer none, .int .i64 i] w fun e w' => e = .returned (.bool false) ∧ ∃ q, w' = w.drewN q := by
  have HT := Lib_hid (phas_nil i w)
  go_enter Tryd.func29, Tryd.ntmps29
  go_wp2_with fail
  refine HT.out.mono ?_
  rintro e w1 ⟨rfl, q, rfl⟩
  go_wp2
  go_ret
  exact ⟨rfl, q, rfl⟩
theorem pcopy_nil (w : World) : Calls Tryd.prog 16 #[.pointer none] w fun e w' => e = .returned (.pointer none) ∧ w' = w := by
  go_enter Tryd.func16, Tryd.ntmps16
  go_wp2
  go_ret
  exact ⟨rfl, rfl⟩

set_option maxRecDepth 100000 in
theorem plen_nil (w : World) : Calls Tryd.prog 13 #[.pointer none] w fun e w' => e = .returned (.int .i64 0) ∧ Below w.heap.size w w' := by
  have hb0 := below_new w (.cells #[.int .i64 0] 3)
  have x0 := heap_alloc_new w (.cells #[.int .i64 0] 3)
  obtain ⟨W3, hW3, hs3, hb3, hc3⟩ := nil_world (w.alloc (.cells #[.int .i64 0] 3)) 0
  simp only [World.size_alloc] at hs3 hb3 hc3
  have hbW : Below w.heap.size w W3 := hb0.trans (hb3.mono (by omega))
  have y0 := (hb3.block _ (by omega)).trans x0
  have hWC := fun W => words_any (.pointer none) 0 (.inl rfl) W
  have HW3 := Lib_hid hW3
  clear hW3 hb0 x0
  refine (callsIn_wide (n := 3)).1 (callsIn_of_wp_marks Tryd.func13 rfl trivial ?_ rfl)
  simp only [Tryd.ntmps13, List.size_toArray, List.length_cons, List.length_nil, Nat.reduceAdd, Nat.reduceSub, Array.replicate_succ, Array.replicate_zero, List.push_toArray, List.append_toArray, List.nil_append, List.cons_append]
  gi_wp2
  refine ⟨trivial, (callsIn_wide.2 (hWC _)).mono ?_⟩
  rintro e w1 ⟨rfl, rfl⟩
  gi_wp2
  rw [← HW3.out]
  refine range_nil (m := 3) (b1 := w.heap.size + 1) (b2 := w.heap.size + 1 + 1) rfl hc3 (by omega) ?_
  intro W hb hD
  have q0 := cell_of_row _ _ 0 _ _ _ ((hb.block _ (by omega)).trans y0)
  have hb9 := (hbW.trans (hb.mono hbW.size)).grown (putObj_grown W W3.heap.size (.deferred none)) (Nat.le_trans hbW.size hb.size) (fun k hk => by injection hk with hk; omega)
  gi_wp2
  refine ⟨by simp, .inl ⟨_, _, rfl, run_takeDeferred hD, ?_⟩⟩
  exact ⟨_, results_tmp rfl _ _ _, rfl, hb9⟩

set_option maxRecDepth 100000 in
theorem pall_nil (w : World) : Calls Tryd.prog 30 #[.pointer none] w fun e w' => e = .returned (.slice none 0 0) ∧ Below w.heap.size w w' := by
  have hb0 := below_new w (.cells #[.slice none 0 0] 22)
  have x0 := heap_alloc_new w (.cells #[.slice none 0 0] 22)
  obtain ⟨W3, hW3, hs3, hb3, hc3⟩ := nil_world (w.alloc (.cells #[.slice none 0 0] 22)) 0
  simp only [World.size_alloc] at hs3 hb3 hc3
  have hbW : Below w.heap.size w W3 := hb0.trans (hb3.mono (by omega))
  have y0 := (hb3.block _ (by omega)).trans x0
  have hWC := fun W => words_any (.pointer none) 0 (.inl rfl) W
  have HW3 := Lib_hid hW3
  clear hW3 hb0 x0
  refine (callsIn_wide (n := 3)).1 (callsIn_of_wp_marks Tryd.func30 rfl trivial ?_ rfl)
  simp only [Tryd.ntmps30, List.size_toArray, List.length_cons, List.length_nil, Nat.reduceAdd, Nat.reduceSub, Array.replicate_succ, Array.replicate_zero, List.push_toArray, List.append_toArray, List.nil_append, List.cons_append]
  gi_wp2
  refine ⟨trivial, (callsIn_wide.2 (hWC _)).mono ?_⟩
  rintro e w1 ⟨rfl, rfl⟩
  gi_wp2
  rw [← HW3.out]
  refine range_nil (m := 3) (b1 := w.heap.size + 1) (b2 := w.heap.size + 1 + 1) rfl hc3 (by omega) ?_
  intro W hb hD
  have q0 := cell_of_row _ _ 0 _ _ _ ((hb.block _ (by omega)).trans y0)
  have hb9 := (hbW.trans (hb.mono hbW.size)).grown (putObj_grown W W3.heap.size (.deferred none)) (Nat.le_trans hbW.size hb.size) (fun k hk => by injection hk with hk; omega)
  gi_wp2
  refine ⟨by simp, .inl ⟨_, _, rfl, run_takeDeferred hD, ?_⟩⟩
  exact ⟨_, results_tmp rfl _ _ _, rfl, hb9⟩

set_option maxRecDepth 100000 in
set_option maxHeartbeats 1000000 in
theorem pchange_nil (f : FuncId) (nv cv : Nat) (Av : Option Addr) (w : World) : Calls Tryd.prog 44 #[.pointer none, .func (.func f) #[] #[], .slice Av nv cv] w fun e w' => e = .returned (.int .i64 0) ∧ Below w.heap.size w w' := by
  obtain ⟨W0, hW0, hs0, hb0, u0, u1, u2, u3⟩ := four_blocks w (.cells #[.pointer none] 26) (.cells #[.func (.func f) #[] #[]] 72) (.cells #[.slice Av nv cv] 70) (.cells #[.int .i64 0] 3)
  obtain ⟨W3, hW3, hs3, hb3, hc3⟩ := nil_world W0 0
  rw [hW0] at hW3
  rw [hs0] at hs3 hb3 hc3
  have hbW : Below w.heap.size w W3 := hb0.trans (hb3.mono (by omega))
  have y3 := (hb3.block _ (by omega)).trans u3
  have c0 := cell_of_row _ _ 0 _ _ _ u0
  have hWC := fun W => words_any (.pointer none) 0 (.inl rfl) W
  have HW3 := Lib_hid hW3
  clear hW3 hb0 u1 u2 u3 hW0
  refine (callsIn_wide (n := 3)).1 (callsIn_of_wp_marks Tryd.func44 rfl trivial ?_ rfl)
  simp only [Tryd.ntmps44, List.size_toArray, List.length_cons, List.length_nil, Nat.reduceAdd, Nat.reduceSub, Array.replicate_succ, Array.replicate_zero, List.push_toArray, List.append_toArray, List.nil_append, List.cons_append]
  gi_wp2
  refine ⟨trivial, (callsIn_wide.2 (hWC _)).mono ?_⟩
  rintro e w1 ⟨rfl, rfl⟩
  gi_wp2
  rw [← HW3.out]
  refine range_nil (m := 3) (b1 := w.heap.size + 4) (b2 := w.heap.size + 5) rfl hc3 (by omega) ?_
  intro W hb hD
  have q0 := cell_of_row _ _ 0 _ _ _ ((hb.block _ (by omega)).trans y3)
  have hb9 := (hbW.trans (hb.mono hbW.size)).grown (putObj_grown W W3.heap.size (.deferred none)) (Nat.le_trans hbW.size hb.size) (fun k hk => by injection hk with hk; omega)
  gi_wp2
  refine ⟨by simp, .inl ⟨_, _, rfl, run_takeDeferred hD, ?_⟩⟩
  exact ⟨_, results_tmp rfl _ _ _, rfl, hb9⟩
theorem pjoin_nil (nv cv : Nat) (Av : Option Addr) (w : World) : Calls Tryd.prog 24 #[.pointer none, .slice Av nv cv] w fun e w' => e = .returned (.int .i64 0) ∧ Below w.heap.size w w' := by
  have HC := Lib_hid (fun f => pchange_nil f nv cv Av w)
  go_enter Tryd.func24, Tryd.ntmps24
  go_wp2_with fail
  refine (HC.out _).mono ?_
  rintro e w1 ⟨rfl, hb⟩
  go_wp2
  go_ret
  exact ⟨rfl, hb⟩
theorem pmeet_nil (nv cv : Nat) (Av : Option Addr) (w : World) : Calls Tryd.prog 25 #[.pointer none, .slice Av nv cv] w fun e w' => e = .returned (.int .i64 0) ∧ Below w.heap.size w w' := by
  have HC := Lib_hid (fun f => pchange_nil f nv cv Av w)
  go_enter Tryd.func25, Tryd.ntmps25
  go_wp2_with fail
  refine (HC.out _).mono ?_
  rintro e w1 ⟨rfl, hb⟩
  go_wp2
  go_ret
  exact ⟨rfl, hb⟩
theorem pless_nil (nv cv : Nat) (Av : Option Addr) (w : World) : Calls Tryd.prog 26 #[.pointer none, .slice Av nv cv] w fun e w' => e = .returned (.int .i64 0) ∧ Below w.heap.size w w' := by
  have HC := Lib_hid (fun f => pchange_nil f nv cv Av w)
  go_enter Tryd.func26, Tryd.ntmps26
  go_wp2_with fail
  refine (HC.out _).mono ?_
  rintro e w1 ⟨rfl, hb⟩
  go_wp2
  go_ret
  exact ⟨rfl, hb⟩

set_option maxRecDepth 100000 in
set_option maxHeartbeats 1000000 in
theorem pnext_nil_pos (i : Int) (w : World) (hi0 : 0 < i ∧ i ≤ 9223372036854775807) : Calls Tryd.prog 28 #[.pointer none, .int .i64 i] w fun e w' => e = .returned (nextV [] i) ∧ Below w.heap.size w w' := by
  obtain ⟨W0, hW0⟩ : ∃ W0, W0 = ((w.alloc (.cells #[.int .i64 0] 3)).alloc (.cells #[.bool false] 4)).alloc (.cells #[.int .i64 i] 3) := ⟨_, rfl⟩
  have hs0 : W0.heap.size = w.heap.size + 3 := by rw [hW0]; simp
  have hb0 : Below w.heap.size w W0 := by rw [hW0]; exact ((below_new w _).alloc (below_new w _).size _).alloc (by simp; omega) _
  have x7 : W0.heap[w.heap.size]? = some (.cells #[.int .i64 0] 3 (0, 0)) := by rw [hW0]; exact (heap_alloc_old _ _ (by simp; omega)).trans ((heap_alloc_old _ _ (by simp)).trans (heap_alloc_new w _))
  have x8 : W0.heap[w.heap.size + 1]? = some (.cells #[.bool false] 4 (0, 0)) := by
    rw [hW0]; refine (heap_alloc_old _ _ (by simp)).trans ?_
    have := heap_alloc_new (w.alloc (.cells #[.int .i64 0] 3)) (.cells #[.bool false] 4)
    rwa [World.size_alloc] at this
  obtain ⟨W3, hW3, hs3, hb3, hc3⟩ := nil_world W0 (i / 64)
  rw [hW0] at hW3
  rw [hs0] at hs3 hb3 hc3
  have y7 := (hb3.block _ (by omega)).trans x7
  have y8 := (hb3.block _ (by omega)).trans x8
  have hbW : Below w.heap.size w W3 := hb0.trans (hb3.mono (by omega))
  have hWC := fun W => words_any (.pointer none) (i / 64) (.inl rfl) W
  have HV : Hid (nextB [] i = (0, false)) := next_no fun k hk _ => by cases hk
  have HW3 := Lib_hid hW3
  clear hW3 x7 x8 hb0 hW0
  refine (callsIn_wide (n := 3)).1 (callsIn_of_wp_marks Tryd.func28 rfl trivial ?_ rfl)
  simp only [Tryd.ntmps28, List.size_toArray, List.length_cons, List.length_nil, Nat.reduceAdd, Nat.reduceSub, Array.replicate_succ, Array.replicate_zero, List.push_toArray, List.append_toArray, List.nil_append, List.cons_append]
  gi_wp2
  refine ⟨trivial, (callsIn_wide.2 (hWC _)).mono ?_⟩
  rintro e w1 ⟨rfl, rfl⟩
  gi_wp2
  rw [← HW3.out]
  refine range_nil (m := 3) (b1 := w.heap.size + 3) (b2 := w.heap.size + 4) rfl hc3 (by omega) ?_
  intro W hb hD
  have z7 := (hb.block _ (by omega)).trans y7
  have z8 := (hb.block _ (by omega)).trans y8
  have q7 := cell_of_row _ _ 0 _ _ _ z7
  have f7 := frozen_of_row _ _ 0 _ _ z7
  have q8 := cell_of_row _ _ 0 _ _ _ z8
  have f8 := frozen_of_row _ _ 0 _ _ z8
  have hbX := hbW.trans (hb.mono hbW.size)
  have HD := Lib_hid hD
  clear hD
  gi_wp2
  have hfin := two_fin (w := w) (X := (W.setCell ⟨w.heap.size, 0, none⟩ (.int .i64 0)).setCell ⟨w.heap.size + 1, 0, none⟩ (.bool false)) (H := W3.heap.size) (l := []) (i := i)
    (by rw [HV.out]; exact (heap_setCell_other _ _ _ _ (by show w.heap.size ≠ w.heap.size + 1; omega)).trans (by rw [heap_setCell_same _ w.heap.size 0 _ _ _ z7]; rfl))
    (by rw [HV.out, heap_setCell_same _ (w.heap.size + 1) 0 _ _ _ ((heap_setCell_other _ _ _ _ (by show w.heap.size + 1 ≠ w.heap.size; omega)).trans z8)]; rfl) (by omega)
    ((hbX.setCell (p := ⟨w.heap.size, 0, none⟩) (Nat.le_refl _) _).setCell (p := ⟨w.heap.size + 1, 0, none⟩) (by show w.heap.size ≤ w.heap.size + 1; omega) _)
    ((heap_setCell_other _ _ _ _ (by show W3.heap.size ≠ w.heap.size + 1; omega)).trans ((heap_setCell_other _ _ _ _ (by show W3.heap.size ≠ w.heap.size; omega)).trans HD.out))
  exact hfin _ rfl rfl

set_option maxRecDepth 100000 in
set_option maxHeartbeats 1000000 in
theorem pnext_nil_neg (i : Int) (w : World) (hi0 : i < 0) : Calls Tryd.prog 28 #[.pointer none, .int .i64 i] w fun e w' => e = .returned (nextV [] i) ∧ Below w.heap.size w w' := by
  obtain ⟨W0, hW0⟩ : ∃ W0, W0 = ((w.alloc (.cells #[.int .i64 0] 3)).alloc (.cells #[.bool false] 4)).alloc (.cells #[.int .i64 (0 : Int)] 3) := ⟨_, rfl⟩
  have hs0 : W0.heap.size = w.heap.size + 3 := by rw [hW0]; simp
  have hb0 : Below w.heap.size w W0 := by rw [hW0]; exact ((below_new w _).alloc (below_new w _).size _).alloc (by simp; omega) _
  have x7 : W0.heap[w.heap.size]? = some (.cells #[.int .i64 0] 3 (0, 0)) := by rw [hW0]; exact (heap_alloc_old _ _ (by simp; omega)).trans ((heap_alloc_old _ _ (by simp)).trans (heap_alloc_new w _))
  have x8 : W0.heap[w.heap.size + 1]? = some (.cells #[.bool false] 4 (0, 0)) := by
    rw [hW0]; refine (heap_alloc_old _ _ (by simp)).trans ?_
    have := heap_alloc_new (w.alloc (.cells #[.int .i64 0] 3)) (.cells #[.bool false] 4)
    rwa [World.size_alloc] at this
  obtain ⟨W3, hW3, hs3, hb3, hc3⟩ := nil_world W0 (0 : Int)
  rw [hW0] at hW3
  rw [hs0] at hs3 hb3 hc3
  have y7 := (hb3.block _ (by omega)).trans x7
  have y8 := (hb3.block _ (by omega)).trans x8
  have hbW : Below w.heap.size w W3 := hb0.trans (hb3.mono (by omega))
  have hWC := fun W => words_any (.pointer none) (0 : Int) (.inl rfl) W
  have HV : Hid (nextB [] i = (0, false)) := next_no fun k hk _ => by cases hk
  have HW3 := Lib_hid hW3
  clear hW3 x7 x8 hb0 hW0
  refine (callsIn_wide (n := 3)).1 (callsIn_of_wp_marks Tryd.func28 rfl trivial ?_ rfl)
  simp only [Tryd.ntmps28, List.size_toArray, List.length_cons, List.length_nil, Nat.reduceAdd, Nat.reduceSub, Array.replicate_succ, Array.replicate_zero, List.push_toArray, List.append_toArray, List.nil_append, List.cons_append]
  gi_wp2
  refine ⟨trivial, (callsIn_wide.2 (hWC _)).mono ?_⟩
  rintro e w1 ⟨rfl, rfl⟩
  gi_wp2
  rw [← HW3.out]
  refine range_nil (m := 3) (b1 := w.heap.size + 3) (b2 := w.heap.size + 4) rfl hc3 (by omega) ?_
  intro W hb hD
  have z7 := (hb.block _ (by omega)).trans y7
  have z8 := (hb.block _ (by omega)).trans y8
  have q7 := cell_of_row _ _ 0 _ _ _ z7
  have f7 := frozen_of_row _ _ 0 _ _ z7
  have q8 := cell_of_row _ _ 0 _ _ _ z8
  have f8 := frozen_of_row _ _ 0 _ _ z8
  have hbX := hbW.trans (hb.mono hbW.size)
  have HD := Lib_hid hD
  clear hD
  gi_wp2
  have hfin := two_fin (w := w) (X := (W.setCell ⟨w.heap.size, 0, none⟩ (.int .i64 0)).setCell ⟨w.heap.size + 1, 0, none⟩ (.bool false)) (H := W3.heap.size) (l := []) (i := i)
    (by rw [HV.out]; exact (heap_setCell_other _ _ _ _ (by show w.heap.size ≠ w.heap.size + 1; omega)).trans (by rw [heap_setCell_same _ w.heap.size 0 _ _ _ z7]; rfl))
    (by rw [HV.out, heap_setCell_same _ (w.heap.size + 1) 0 _ _ _ ((heap_setCell_other _ _ _ _ (by show w.heap.size + 1 ≠ w.heap.size; omega)).trans z8)]; rfl) (by omega)
    ((hbX.setCell (p := ⟨w.heap.size, 0, none⟩) (Nat.le_refl _) _).setCell (p := ⟨w.heap.size + 1, 0, none⟩) (by show w.heap.size ≤ w.heap.size + 1; omega) _)
    ((heap_setCell_other _ _ _ _ (by show W3.heap.size ≠ w.heap.size + 1; omega)).trans ((heap_setCell_other _ _ _ _ (by show W3.heap.size ≠ w.heap.size; omega)).trans HD.out))
  exact hfin _ rfl rfl

set_option maxRecDepth 100000 in
set_option maxHeartbeats 1000000 in
theorem pnext_nil_zero (i : Int) (w : World) (hi0 : i = 0) : Calls Tryd.prog 28 #[.pointer none, .int .i64 i] w fun e w' => e = .returned (nextV [] i) ∧ Below w.heap.size w w' := by
  obtain ⟨W0, hW0⟩ : ∃ W0, W0 = ((w.alloc (.cells #[.int .i64 0] 3)).alloc (.cells #[.bool false] 4)).alloc (.cells #[.int .i64 (0 : Int)] 3) := ⟨_, rfl⟩
  have hs0 : W0.heap.size = w.heap.size + 3 := by rw [hW0]; simp
  have hb0 : Below w.heap.size w W0 := by rw [hW0]; exact ((below_new w _).alloc (below_new w _).size _).alloc (by simp; omega) _
  have x7 : W0.heap[w.heap.size]? = some (.cells #[.int .i64 0] 3 (0, 0)) := by rw [hW0]; exact (heap_alloc_old _ _ (by simp; omega)).trans ((heap_alloc_old _ _ (by simp)).trans (heap_alloc_new w _))
  have x8 : W0.heap[w.heap.size + 1]? = some (.cells #[.bool false] 4 (0, 0)) := by
    rw [hW0]; refine (heap_alloc_old _ _ (by simp)).trans ?_
    have := heap_alloc_new (w.alloc (.cells #[.int .i64 0] 3)) (.cells #[.bool false] 4)
    rwa [World.size_alloc] at this
  obtain ⟨W3, hW3, hs3, hb3, hc3⟩ := nil_world W0 (0 : Int)
  rw [hW0] at hW3
  rw [hs0] at hs3 hb3 hc3
  have y7 := (hb3.block _ (by omega)).trans x7
  have y8 := (hb3.block _ (by omega)).trans x8
  have hbW : Below w.heap.size w W3 := hb0.trans (hb3.mono (by omega))
  have hWC := fun W => words_any (.pointer none) (0 : Int) (.inl rfl) W
  have HV : Hid (nextB [] i = (0, false)) := next_no fun k hk _ => by cases hk
  have HW3 := Lib_hid hW3
  clear hW3 x7 x8 hb0 hW0
  refine (callsIn_wide (n := 3)).1 (callsIn_of_wp_marks Tryd.func28 rfl trivial ?_ rfl)
  simp only [Tryd.ntmps28, List.size_toArray, List.length_cons, List.length_nil, Nat.reduceAdd, Nat.reduceSub, Array.replicate_succ, Array.replicate_zero, List.push_toArray, List.append_toArray, List.nil_append, List.cons_append]
  gi_wp2
  refine ⟨trivial, (callsIn_wide.2 (hWC _)).mono ?_⟩
  rintro e w1 ⟨rfl, rfl⟩
  gi_wp2
  rw [← HW3.out]
  refine range_nil (m := 3) (b1 := w.heap.size + 3) (b2 := w.heap.size + 4) rfl hc3 (by omega) ?_
  intro W hb hD
  have z7 := (hb.block _ (by omega)).trans y7
  have z8 := (hb.block _ (by omega)).trans y8
  have q7 := cell_of_row _ _ 0 _ _ _ z7
  have f7 := frozen_of_row _ _ 0 _ _ z7
  have q8 := cell_of_row _ _ 0 _ _ _ z8
  have f8 := frozen_of_row _ _ 0 _ _ z8
  have hbX := hbW.trans (hb.mono hbW.size)
  have HD := Lib_hid hD
  clear hD
  gi_wp2
  have hfin := two_fin (w := w) (X := (W.setCell ⟨w.heap.size, 0, none⟩ (.int .i64 0)).setCell ⟨w.heap.size + 1, 0, none⟩ (.bool false)) (H := W3.heap.size) (l := []) (i := i)
    (by rw [HV.out]; exact (heap_setCell_other _ _ _ _ (by show w.heap.size ≠ w.heap.size + 1; omega)).trans (by rw [heap_setCell_same _ w.heap.size 0 _ _ _ z7]; rfl))
    (by rw [HV.out, heap_setCell_same _ (w.heap.size + 1) 0 _ _ _ ((heap_setCell_other _ _ _ _ (by show w.heap.size + 1 ≠ w.heap.size; omega)).trans z8)]; rfl) (by omega)
    ((hbX.setCell (p := ⟨w.heap.size, 0, none⟩) (Nat.le_refl _) _).setCell (p := ⟨w.heap.size + 1, 0, none⟩) (by show w.heap.size ≤ w.heap.size + 1; omega) _)
    ((heap_setCell_other _ _ _ _ (by show W3.heap.size ≠ w.heap.size + 1; omega)).trans ((heap_setCell_other _ _ _ _ (by show W3.heap.size ≠ w.heap.size; omega)).trans HD.out))
  exact hfin _ rfl rfl

theorem pnext_nil (i : Int) (w : World) (hi : i ≤ 9223372036854775807) : Calls Tryd.prog 28 #[.pointer none, .int .i64 i] w fun e w' => e = .returned (.tuple #[.int .i64 0, .bool false]) ∧ Below w.heap.size w w' := by
  have hv : nextV [] i = .tuple #[.int .i64 0, .bool false] := by
    have : nextB [] i = (0, false) := next_no fun k hk _ => by cases hk
    unfold nextV; rw [this]; rfl
  rw [← hv]
  rcases Int.lt_trichotomy i 0 with h1 | h1 | h1
  · exact pnext_nil_neg i w h1
  · exact pnext_nil_zero i w h1
  · exact pnext_nil_pos i w ⟨h1, hi⟩

end Go.Proofs.YtiembenkdldklaaDoor
