/-
  Layer 13: a graph that is not there: each function of the program; GraphNone's walk.
-/
import Derived.Test.YtopecdkkmbpnbaaGgq
namespace Go.Proofs.Ytopecdkkmbpnbaa
open Go Go.RowKit Go.Maps
set_option linter.unusedVariables false

theorem nadd_any (v : Value) (w : World) : Calls Try.prog 16 #[.pointer none, v] w fun e w' => e = .returned (.tuple #[.int .i64 0, .int .i64 1]) ∧ w = w' := by
  go_enter Try.func16, Try.ntmps16
  go_wp2
  go_ret2
  exact ⟨rfl, rfl⟩

theorem nlen_any (w : World) : Calls Try.prog 30 #[.pointer none] w fun e w' => e = .returned (.int .i64 0) ∧ w = w' := by
  go_enter Try.func30, Try.ntmps30
  go_wp2
  go_ret
  exact ⟨rfl, rfl⟩

theorem nmany_any (w : World) : Calls Try.prog 33 #[.pointer none] w fun e w' => e = .returned (.int .i64 0) ∧ w = w' := by
  go_enter Try.func33, Try.ntmps33
  go_wp2
  go_ret
  exact ⟨rfl, rfl⟩

theorem nnode_any (n : Int) (w : World) : Calls Try.prog 42 #[.pointer none, .int .i64 n] w fun r w' => r = .returned (.bool false) ∧ w = w' := by
  have HL := Lib_hid (nlen_any w)
  by_cases hn : 0 ≤ n
  · have d : decide (0 ≤ n) = true := decide_eq_true hn
    have d2 : decide (n < 0) = false := decide_eq_false (by omega)
    go_enter Try.func42, Try.ntmps42
    go_wp2_with fail
    refine HL.out.mono ?_
    rintro e w1 ⟨rfl, rfl⟩
    go_wp2
    go_ret
    exact ⟨rfl, rfl⟩
  · have d : decide (0 ≤ n) = false := decide_eq_false hn
    go_enter Try.func42, Try.ntmps42
    go_wp2
    go_ret
    exact ⟨rfl, rfl⟩

theorem nout_any (n : Int) (w : World) : Calls Try.prog 31 #[.pointer none, .int .i64 n] w fun r w' => r = .returned (.slice none 0 0) ∧ w = w' := by
  have HL := Lib_hid (nnode_any n w)
  go_enter Try.func31, Try.ntmps31
  go_wp2_with fail
  refine HL.out.mono ?_
  rintro e w1 ⟨rfl, rfl⟩
  go_wp2
  go_ret
  exact ⟨rfl, rfl⟩

theorem nin_any (n : Int) (w : World) : Calls Try.prog 32 #[.pointer none, .int .i64 n] w fun r w' => r = .returned (.slice none 0 0) ∧ w = w' := by
  have HL := Lib_hid (nnode_any n w)
  go_enter Try.func32, Try.ntmps32
  go_wp2_with fail
  refine HL.out.mono ?_
  rintro e w1 ⟨rfl, rfl⟩
  go_wp2
  go_ret
  exact ⟨rfl, rfl⟩

theorem nbetween_any (n m : Int) (w : World) : Calls Try.prog 36 #[.pointer none, .int .i64 n, .int .i64 m] w fun r w' => r = .returned (.slice none 0 0) ∧ w = w' := by
  have HL := Lib_hid (nnode_any n w)
  go_enter Try.func36, Try.ntmps36
  go_wp2_with fail
  refine HL.out.mono ?_
  rintro e w1 ⟨rfl, rfl⟩
  go_wp2
  go_ret
  exact ⟨rfl, rfl⟩

theorem nnext_any (n : Int) (w : World) : Calls Try.prog 37 #[.pointer none, .int .i64 n] w fun r w' => r = .returned (.slice none 0 0) ∧ Below w.heap.size w w' := by
  have HL := Lib_hid (nout_any n w)
  have CO := Lib_hid (fun (W : World) => compact_any (w := W) (base := W.heap.size) (n := 0) (c := 0) (A := none) (l := []) (own_zero _ _ _ _) (by omega))
  go_enter Try.func37, Try.ntmps37
  go_wp2_with fail
  refine HL.out.mono ?_
  rintro e w1 ⟨rfl, rfl⟩
  go_wp2
  go_loopw [5, 7, 12] (fun l x i wr => l = .slice none 0 0 ∧ i = .int .i64 0 ∧ w = wr) (fun _ _ _ _ => 0)
  case atStart => exact ⟨rfl, rfl, rfl⟩
  case round =>
    obtain ⟨rfl, rfl, rfl⟩ := hrel
    go_wp2_with fail
    refine (CO.out w).mono ?_
    rintro e w2 ⟨rfl, _, hb⟩
    have HB := Lib_hid hb
    clear hb
    go_wp2
    go_ret
    exact ⟨rfl, HB.out⟩

set_option maxRecDepth 100000 in
theorem nedges_any (w : World) : Calls Try.prog 34 #[.pointer none] w fun r w' => (∃ A, r = .returned (.slice A 0 0)) ∧ Below w.heap.size w w' := by
  have MA := Lib_hid (fun W => nmany_any W)
  have LE := Lib_hid (fun W => nlen_any W)
  have MK : (Instr.makeSlice 34 (.int .i64 0) (.int .i64 0)).run Try.prog w = .ok (.slice (some ⟨w.heap.size, 0, none⟩) 0 0) (w.alloc (.cells (madeCells #[.int .i64 0, .int .i64 0, .int .i64 0] (0 * 3)) 39)) := make_edges 0 (by omega) w
  have hb := Lib_hid (below_new w (.cells (madeCells #[.int .i64 0, .int .i64 0, .int .i64 0] (0 * 3)) 39))
  generalize hcs : Obj.cells (madeCells #[.int .i64 0, .int .i64 0, .int .i64 0] (0 * 3)) 39 = oc at *
  clear hcs
  go_enter Try.func34, Try.ntmps34
  go_wp2_with fail
  refine (MA.out _).mono ?_
  rintro e w1 ⟨rfl, rfl⟩
  go_wp2_with fail
  refine (LE.out _).mono ?_
  rintro e w1 ⟨rfl, rfl⟩
  go_wp2
  generalize w.alloc oc = W1 at *
  go_loopw [3, 4, 10] (fun l x i wr => l = .slice (some ⟨w.heap.size, 0, none⟩) 0 0 ∧ i = .int .i64 0 ∧ W1 = wr) (fun _ _ _ _ => 0)
  case atStart => exact ⟨rfl, rfl, rfl⟩
  case round =>
    obtain ⟨rfl, rfl, rfl⟩ := hrel
    go_wp2
    go_ret
    exact ⟨⟨_, rfl⟩, hb.out⟩

theorem nhas_any (a b c : Int) (w : World) : Calls Try.prog 35 #[.pointer none, .agg #[.int .i64 a, .int .i64 b, .int .i64 c]] w fun r w' => r = .returned (.bool false) ∧ Below w.heap.size w w' := by
  have hb := Lib_hid (below_new w (.cells #[.int .i64 a, .int .i64 b, .int .i64 c] 39))
  go_enter Try.func35, Try.ntmps35
  go_wp2
  go_ret
  exact ⟨rfl, hb.out⟩
theorem nremove_any (a b c : Int) (w : World) : Calls Try.prog 18 #[.pointer none, .agg #[.int .i64 a, .int .i64 b, .int .i64 c]] w fun r w' => r = .returned (.bool false) ∧ Below w.heap.size w w' := by
  have hb := Lib_hid (below_new w (.cells #[.int .i64 a, .int .i64 b, .int .i64 c] 39))
  have HA := Lib_hid (nhas_any a b c (w.alloc (.cells #[.int .i64 a, .int .i64 b, .int .i64 c] 39)))
  go_enter Try.func18, Try.ntmps18
  go_wp2_with fail
  refine HA.out.mono ?_
  rintro e w1 ⟨rfl, hb1⟩
  have FIN := Lib_hid (hb.out.trans (hb1.mono hb.out.size))
  clear hb1
  go_wp2
  go_ret
  exact ⟨rfl, FIN.out⟩

theorem nback_any (w : World) : Calls Try.prog 24 #[.pointer none] w fun e w' => e = .returned (.pointer none) ∧ w = w' := by
  go_enter Try.func24, Try.ntmps24
  go_wp2
  go_ret
  exact ⟨rfl, rfl⟩

theorem ncopy_any (w : World) : Calls Try.prog 12 #[.pointer none] w fun e w' => e = .returned (.pointer none) ∧ w = w' := by
  go_enter Try.func12, Try.ntmps12
  go_wp2
  go_ret
  exact ⟨rfl, rfl⟩

theorem nonly_any (v : Value) (w : World) : Calls Try.prog 25 #[.pointer none, v] w fun e w' => e = .returned (.pointer none) ∧ w = w' := by
  go_enter Try.func25, Try.ntmps25
  go_wp2
  go_ret
  exact ⟨rfl, rfl⟩

set_option maxRecDepth 100000 in
theorem nsame_any (w : World) : Calls Try.prog 22 #[.pointer none, .pointer none] w fun e w' => e = .returned (.bool true) ∧ w = w' := by
  go_enter Try.func22, Try.ntmps22
  go_wp2
  go_ret
  exact ⟨rfl, rfl⟩

theorem ptr_nil_aux (d : Nat) (a : Addr) (w : World) : (Op.equalIn (d + 1) 25 (.pointer none) (.pointer (some a))).run Try.prog w = .ok false w := by
  simp [Op.equalIn, run_underlying Try.underlying25]
theorem ptr_nil_some (a : Addr) (w : World) : (binOp .eql 25 (.pointer none) (.pointer (some a))).run Try.prog w = .ok (.bool false) w := by
  simp only [binOp]
  have h : (Op.equal 25 (.pointer none) (.pointer (some a))).run Try.prog w = .ok false w := ptr_nil_aux 9999 a w
  simp [h]

set_option maxRecDepth 100000 in
theorem nsamep_any (p : Nat) (w : World) : Calls Try.prog 22 #[.pointer none, .pointer (some ⟨p, 0, none⟩)] w fun e w' => e = .returned (.bool false) ∧ w = w' := by
  have PN := ptr_nil_some ⟨p, 0, none⟩ w
  go_enter Try.func22, Try.ntmps22
  go_wp2
  go_ret
  exact ⟨rfl, rfl⟩

set_option maxRecDepth 100000 in
set_option maxHeartbeats 3200000 in
theorem gnone_any (a b c n : Int) (w : World) : Calls Try.prog 6 #[.agg #[.int .i64 a, .int .i64 b, .int .i64 c], .int .i64 n] w fun e w' => e = .returned (.bool true) ∧ Below w.heap.size w w' := by
  have NW := Lib_hid (fun W => pnew_any 0 W)
  have HW := Lib_hid (fun W => works_any W)
  have hbx := heap_alloc_new w (.cells #[.int .i64 a, .int .i64 b, .int .i64 c] 39)
  have hb0 := below_new w (.cells #[.int .i64 a, .int .i64 b, .int .i64 c] 39)
  have hb1 := hb0.alloc hb0.size (.cells #[.int .i64 a, .int .i64 b, .int .i64 c] 39)
  have hx1 := (below_new (w.alloc (.cells #[.int .i64 a, .int .i64 b, .int .i64 c] 39)) (.cells #[.int .i64 a, .int .i64 b, .int .i64 c] 39)).block w.heap.size (by simp)
  have HX := Lib_hid (hx1.trans hbx)
  have HB := Lib_hid hb1
  clear hbx hb0 hb1 hx1
  go_enter Try.func6, Try.ntmps6
  go_wp2_with fail
  refine (nadd_any _ _).mono ?_
  rintro e w1 ⟨rfl, rfl⟩
  go_wp2_with fail
  refine (NW.out _).mono ?_
  rintro e w2 h2
  obtain ⟨hc, _⟩ | ⟨_, p, S, rfl, hG, hB, hS⟩ := h2
  · omega
  have K0 : Hid (∀ W, Below w2.heap.size w2 W → W.cell? ⟨w.heap.size, 0, none⟩ = some (.int .i64 a) ∧ W.cell? ⟨w.heap.size, 1, none⟩ = some (.int .i64 b) ∧ W.cell? ⟨w.heap.size, 2, none⟩ = some (.int .i64 c)) := fun W hW => by
    have l1 := (Array.getElem?_eq_some_iff.1 HX.out).1
    have h1 := (hW.block w.heap.size (Nat.lt_of_lt_of_le l1 hB.size)).trans ((hB.block _ l1).trans HX.out)
    exact ⟨cell_of_row _ _ 0 _ _ _ h1, cell_of_row _ _ 1 _ _ _ h1, cell_of_row _ _ 2 _ _ _ h1⟩
  have B2 := Lib_hid (HB.out.trans (hB.mono HB.out.size))
  clear hG hB hS NW HX HB
  obtain ⟨x0, x1, x2⟩ := K0.out w2 (Below.refl _ _)
  go_wp2_with fail
  refine (nremove_any _ _ _ _).mono ?_
  rintro e w3 ⟨rfl, hb3⟩
  obtain ⟨y0, y1, y2⟩ := K0.out w3 hb3
  have B3 := Lib_hid (B2.out.trans (hb3.mono B2.out.size))
  clear x0 x1 x2 hb3 K0 B2
  go_wp2_with fail
  refine (nhas_any _ _ _ _).mono ?_
  rintro e w4 ⟨rfl, hb4⟩
  have B4 := Lib_hid (B3.out.trans (hb4.mono B3.out.size))
  clear y0 y1 y2 hb4 B3
  go_wp2_with fail
  refine (nlen_any _).mono ?_
  rintro e w5 ⟨rfl, rfl⟩
  go_wp2_with fail
  refine (nmany_any _).mono ?_
  rintro e w5 ⟨rfl, rfl⟩
  go_wp2_with fail
  refine (nedges_any _).mono ?_
  rintro e w5 ⟨⟨A5, rfl⟩, hb5⟩
  have B5 := Lib_hid (B4.out.trans (hb5.mono B4.out.size))
  clear hb5 B4
  go_wp2_with fail
  refine (nout_any _ _).mono ?_
  rintro e w6 ⟨rfl, rfl⟩
  go_wp2_with fail
  refine (nin_any _ _).mono ?_
  rintro e w6 ⟨rfl, rfl⟩
  go_wp2_with fail
  refine (nbetween_any _ _ _).mono ?_
  rintro e w6 ⟨rfl, rfl⟩
  go_wp2_with fail
  refine (nnext_any _ _).mono ?_
  rintro e w6 ⟨rfl, hb6⟩
  have B6 := Lib_hid (B5.out.trans (hb6.mono B5.out.size))
  clear hb6 B5
  go_wp2_with fail
  refine (nback_any _).mono ?_
  rintro e w7 ⟨rfl, rfl⟩
  go_wp2_with fail
  refine (nonly_any _ _).mono ?_
  rintro e w7 ⟨rfl, rfl⟩
  go_wp2_with fail
  refine (ncopy_any _).mono ?_
  rintro e w7 ⟨rfl, rfl⟩
  go_wp2_with fail
  refine (nsame_any _).mono ?_
  rintro e w7 ⟨rfl, rfl⟩
  go_wp2_with fail
  refine (nsamep_any _ _).mono ?_
  rintro e w7 ⟨rfl, rfl⟩
  have B7 := Lib_hid (B6.out.alloc B6.out.size (.cells #[.int .i64 n] 3))
  clear B6
  go_wp2_with fail
  refine (HW.out _).mono ?_
  rintro e w8 ⟨rfl, hb8⟩
  have B8 := Lib_hid (B7.out.trans (hb8.mono B7.out.size))
  clear hb8 B7
  go_wp2
  go_ret
  exact ⟨rfl, B8.out⟩

end Go.Proofs.Ytopecdkkmbpnbaa
