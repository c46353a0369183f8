/-
  Layer 7: InternNone.
-/
import Derived.Test.YtidlpiamiglppaaInl
namespace Go.Proofs.Ytidlpiamiglppaa
open Go Go.RowKit
set_option linter.unusedVariables false

set_option maxRecDepth 100000 in
set_option maxHeartbeats 1600000 in
theorem inone_any (nm k x y : Int) (w : World) : Calls Try.prog 6 #[.int .u64 nm, .int .i64 k, .agg #[.int .u64 x, .int .u64 y]] w fun e w' => e = .returned (.bool true) ∧ Below w.heap.size w w' := by
  have F1 := fun W => nfind_any W nm
  have F2 := fun W => nname_any W k
  have F3 := fun W => mpfind_any W x y
  have F4 := fun W => mpname_any W k
  have hbx := heap_alloc_new w (.cells #[.int .u64 x, .int .u64 y] 59)
  have hb0 := below_new w (.cells #[.int .u64 x, .int .u64 y] 59)
  have hs0 : (w.alloc (.cells #[.int .u64 x, .int .u64 y] 59)).heap.size = w.heap.size + 1 := by simp
  have HF := Lib_hid (And.intro F1 (And.intro F2 (And.intro F3 F4)))
  have HB := Lib_hid (And.intro hbx (And.intro hb0 hs0))
  clear F1 F2 F3 F4 hbx hb0 hs0
  go_enter Try.func6, Try.ntmps6
  go_wp2_with fail
  refine (HF.out.1 _).mono ?_
  rintro e w1 ⟨rfl, rfl⟩
  go_wp2_with fail
  refine (HF.out.2.1 _).mono ?_
  rintro e w1 ⟨rfl, rfl⟩
  go_wp2_with fail
  refine (HF.out.2.2.1 _).mono ?_
  rintro e w3 ⟨rfl, hb3⟩
  have hbx3 := Lib_hid ((hb3.block w.heap.size (by simp)).trans HB.out.1)
  have hbw3 := Lib_hid (HB.out.2.1.trans (hb3.mono (by rw [HB.out.2.2]; omega)))
  clear hb3
  go_wp2_with fail
  refine (HF.out.2.2.2 _).mono ?_
  rintro e w4 ⟨rfl, hb4⟩
  have hbx4 := Lib_hid ((hb4.block w.heap.size (Array.getElem?_eq_some_iff.1 hbx3.out).1).trans hbx3.out)
  have hbw4 := Lib_hid (hbw3.out.trans (hb4.mono hbw3.out.size))
  clear hb4
  go_upto_region 7 with (fail)
  have hbn := below_new w4 (.cells #[.int .u64 0, .int .u64 0] 59)
  have hbx5 := Lib_hid ((hbn.block w.heap.size (Array.getElem?_eq_some_iff.1 hbx4.out).1).trans hbx4.out)
  have hbw5 := Lib_hid (hbw4.out.trans (hbn.mono hbw4.out.size))
  clear hbn
  generalize w4.alloc (.cells #[.int .u64 0, .int .u64 0] 59) = w5 at *
  have k0 : w5.cell? ⟨w.heap.size, 0, none⟩ = some (.int .u64 x) := cell_of_row _ _ 0 _ _ _ hbx5.out
  have k1 : w5.cell? ⟨w.heap.size, 1, none⟩ = some (.int .u64 y) := cell_of_row _ _ 1 _ _ _ hbx5.out
  have hlt : w.heap.size < w5.heap.size := (Array.getElem?_eq_some_iff.1 hbx5.out).1
  have HW := Lib_hid (fun W => works7_any W)
  clear hbx3 hbw3 hbx4 hbw4 HF HB
  go_wp2_with fail
  refine (nadd_any _ _).mono ?_
  rintro e w6 ⟨rfl, rfl⟩
  go_wp2_with fail
  refine (nnames_any _).mono ?_
  rintro e w6 ⟨rfl, rfl⟩
  go_wp2_with fail
  refine (nrising_any _).mono ?_
  rintro e w6 ⟨rfl, rfl⟩
  go_wp2_with fail
  refine (nlen_any _).mono ?_
  rintro e w6 ⟨rfl, rfl⟩
  go_wp2_with fail
  refine (ncopy_any _).mono ?_
  rintro e w6 ⟨rfl, rfl⟩
  go_wp2_with fail
  refine (mpadd_any _ _).mono ?_
  rintro e w6 ⟨rfl, rfl⟩
  go_wp2_with fail
  refine (mprising_any _).mono ?_
  rintro e w6 ⟨rfl, rfl⟩
  go_wp2_with fail
  refine (mplen_any _).mono ?_
  rintro e w6 ⟨rfl, rfl⟩
  have hb6 := Lib_hid ((hbw5.out.alloc hbw5.out.size (.cells #[.int .u64 nm] 23)).alloc (by have := hbw5.out.size; simp; omega) (.cells #[.int .u64 x, .int .u64 y] 59))
  go_wp2_with fail
  refine (HW.out _).mono ?_
  rintro e w7 ⟨rfl, hb7⟩
  have hb8 := Lib_hid (hb6.out.trans (hb7.mono hb6.out.size))
  clear hb6 hb7 hbw5 hbx5
  go_wp2
  go_ret
  exact ⟨rfl, hb8.out⟩

end Go.Proofs.Ytidlpiamiglppaa
