/-
  The contract of the document's Get of a frame.
-/
import Derived.Test.YtedglcbeheeonaaDoorFge
import Derived.Test.YtedglcbeheeonaaDoorFdo
import Derived.Test.YtedglcbeheeonaaDoorRget
namespace Go.Proofs.YtedglcbeheeonaaDoor
open Go Go.RowKit
set_option linter.unusedVariables false

/-- How the document's Get ends. -/
def RGetEnd (r : FG) (w : World) (e : Ending) (w' : World) : Prop :=
  match r with
  | .bad r => e = .returned (.tuple #[.agg #[.int .u8 0, .string ⟨#[]⟩], .int .i64 0, .int .i64 (r : Int)]) ∧ Below w.heap.size w w'
  | .good k p nx => e = .returned (.tuple #[.agg #[.int .u8 (k : Int), .string (str p)], .int .i64 (nx : Int), .int .i64 0]) ∧ Below w.heap.size w w'

set_option maxRecDepth 100000 in
set_option maxHeartbeats 1600000 in
theorem rgetf_out (A : Option Addr) (n c : Nat) (a : Int) (w : World) (h : a < 0 ∨ (n : Int) ≤ a) :
    Calls Tryd.prog 20 #[.slice A n c, .int .i64 a] w (RGetEnd (.bad 1) w) := by
  by_cases h0 : a < 0
  · go_enter Tryd.func20, Tryd.ntmps20
    go_wp2
    exact bodyPost_ret (v := .tuple #[.agg #[.int .u8 0, .string ⟨#[]⟩], .int .i64 0, .int .i64 1]) (by simp [results, Tryd.results20, go_sem]) rfl ⟨rfl, (by first | exact below_new _ _ | exact below_put2 (below_new _ _) _ _)⟩
  · have hn : (n : Int) ≤ a := by omega
    have hd : decide (a < 0) = false := by simpa using h0
    go_enter Tryd.func20, Tryd.ntmps20
    go_wp2
    exact bodyPost_ret (v := .tuple #[.agg #[.int .u8 0, .string ⟨#[]⟩], .int .i64 0, .int .i64 1]) (by simp [results, Tryd.results20, go_sem]) rfl ⟨rfl, (by first | exact below_new _ _ | exact below_put2 (below_new _ _) _ _)⟩

set_option maxRecDepth 100000 in
set_option maxHeartbeats 1600000 in
theorem rgetf_bad (B : Nat) (A : Option Addr) (n c : Nat) (l : List Nat) (a : Nat) (w : World) (hr : Rd w B 1 A n (bs l)) (hb8 : ∀ x ∈ l, x < 256) (hn : n ≤ 1000000000) (hB : B ≤ w.heap.size) (ha : a < n) (x y z : Nat) (hx : getS l ((a + 1 : Nat) : Int) = (x, y, z)) (hz : z = 10 ∨ z = 4 ∨ (z = 0 ∧ n < y + 4 + x)) :
    Calls Tryd.prog 20 #[.slice A n c, .int .i64 a] w (RGetEnd (frN l a) w) := by
  have hln : l.length = n := hr.count
  have hF := getS_form hb8 (by omega) hx
  have hd0 : decide ((a : Int) < 0) = false := by simp
  have hd1 : decide ((n : Int) ≤ (a : Int)) = false := by simp; omega
  have hwr : IntKind.i64.wrap ((a : Int) + 1) = (a : Int) + 1 := IntWalk.i64_in _ (by omega)
  have hwn : IntKind.u64.wrap (n : Int) = (n : Int) := by rw [show IntKind.u64.wrap (n : Int) = (n : Int) % 18446744073709551616 by simp [IntKind.wrap, IntKind.bits, IntKind.signed]]; omega
  have hb0 := below_new w (.cells #[.int .u8 0, .string ⟨#[]⟩] 30)
  have G := rget_any B A n c l ((a : Int) + 1) (w.alloc (.cells #[.int .u8 0, .string ⟨#[]⟩] 30)) (hr.alloc hB _) hb8 (by omega) (Nat.le_trans hB hb0.size)
  rw [show getS l ((a : Int) + 1) = (x, y, z) from hx] at G
  simp only [tup] at G
  have HG := Lib_hid G
  have hh := heap_alloc_new w (.cells #[.int .u8 0, .string ⟨#[]⟩] 30)
  rcases hz with rfl | rfl | ⟨rfl, hz⟩
  · rw [frN_len hx]
    clear hx hF hln hb8 hr G
    go_enter Tryd.func20, Tryd.ntmps20
    go_wp2_with fail
    refine HG.out.mono ?_
    rintro e w1 ⟨rfl, hbx⟩
    have hh1 := (hbx.block w.heap.size (by simp)).trans hh
    have e0 := cell_of_row w1 w.heap.size 0 _ _ _ hh1
    have e1 := cell_of_row w1 w.heap.size 1 _ _ _ hh1
    have z0 := frozen_of_row w1 w.heap.size 0 _ _ hh1
    have z1 := frozen_of_row w1 w.heap.size 1 _ _ hh1
    have hbw := hb0.trans (hbx.mono hb0.size)
    clear hbx hh hh1 hb0 HG
    go_wp2_with fail
    have F := put2_cells e0 e1 (.int .u8 0) (.string ⟨#[]⟩)
    exact bodyPost_ret (v := .tuple #[.agg #[.int .u8 0, .string ⟨#[]⟩], .int .i64 0, .int .i64 2]) (by simp [results, Tryd.results20, go_sem, F.1, F.2]) rfl ⟨rfl, below_put2 hbw _ _⟩
  · rw [frN_short hx (by omega) (.inl (by omega))]
    clear hx hF hln hb8 hr G
    go_enter Tryd.func20, Tryd.ntmps20
    go_wp2_with fail
    refine HG.out.mono ?_
    rintro e w1 ⟨rfl, hbx⟩
    have hh1 := (hbx.block w.heap.size (by simp)).trans hh
    have e0 := cell_of_row w1 w.heap.size 0 _ _ _ hh1
    have e1 := cell_of_row w1 w.heap.size 1 _ _ _ hh1
    have z0 := frozen_of_row w1 w.heap.size 0 _ _ hh1
    have z1 := frozen_of_row w1 w.heap.size 1 _ _ hh1
    have hbw := hb0.trans (hbx.mono hb0.size)
    clear hbx hh hh1 hb0 HG
    go_wp2_with fail
    have F := put2_cells e0 e1 (.int .u8 0) (.string ⟨#[]⟩)
    exact bodyPost_ret (v := .tuple #[.agg #[.int .u8 0, .string ⟨#[]⟩], .int .i64 0, .int .i64 1]) (by simp [results, Tryd.results20, go_sem, F.1, F.2]) rfl ⟨rfl, below_put2 hbw _ _⟩
  · rw [frN_short hx (by omega) (.inr (by omega))]
    have hyl : (y : Int) ≤ n := by omega
    by_cases hxn : (n : Int) < x
    · have hdx : decide ((n : Int) < (x : Int)) = true := by simpa using hxn
      clear hx hF hln hb8 hr G
      go_enter Tryd.func20, Tryd.ntmps20
      go_wp2_with fail
      refine HG.out.mono ?_
      rintro e w1 ⟨rfl, hbx⟩
      have hh1 := (hbx.block w.heap.size (by simp)).trans hh
      have e0 := cell_of_row w1 w.heap.size 0 _ _ _ hh1
      have e1 := cell_of_row w1 w.heap.size 1 _ _ _ hh1
      have z0 := frozen_of_row w1 w.heap.size 0 _ _ hh1
      have z1 := frozen_of_row w1 w.heap.size 1 _ _ hh1
      have hbw := hb0.trans (hbx.mono hb0.size)
      clear hbx hh hh1 hb0 HG
      go_wp2_with fail
      have F := put2_cells e0 e1 (.int .u8 0) (.string ⟨#[]⟩)
      exact bodyPost_ret (v := .tuple #[.agg #[.int .u8 0, .string ⟨#[]⟩], .int .i64 0, .int .i64 1]) (by simp [results, Tryd.results20, go_sem, F.1, F.2]) rfl ⟨rfl, below_put2 hbw _ _⟩
    · have hdx : decide ((n : Int) < (x : Int)) = false := by simpa using hxn
      have hwx : IntKind.i64.wrap (x : Int) = (x : Int) := IntWalk.i64_in _ (by omega)
      have hwy : IntKind.i64.wrap ((y : Int) + (x : Int)) = (y : Int) + (x : Int) := IntWalk.i64_in _ (by omega)
      have hwz : IntKind.i64.wrap ((y : Int) + (x : Int) + 4) = (y : Int) + (x : Int) + 4 := IntWalk.i64_in _ (by omega)
      have hdz : decide ((n : Int) < (y : Int) + (x : Int) + 4) = true := by simp; omega
      clear hx hF hln hb8 hr G
      go_enter Tryd.func20, Tryd.ntmps20
      go_wp2_with fail
      refine HG.out.mono ?_
      rintro e w1 ⟨rfl, hbx⟩
      have hh1 := (hbx.block w.heap.size (by simp)).trans hh
      have e0 := cell_of_row w1 w.heap.size 0 _ _ _ hh1
      have e1 := cell_of_row w1 w.heap.size 1 _ _ _ hh1
      have z0 := frozen_of_row w1 w.heap.size 0 _ _ hh1
      have z1 := frozen_of_row w1 w.heap.size 1 _ _ hh1
      have hbw := hb0.trans (hbx.mono hb0.size)
      clear hbx hh hh1 hb0 HG
      go_wp2_with fail
      have F := put2_cells e0 e1 (.int .u8 0) (.string ⟨#[]⟩)
      exact bodyPost_ret (v := .tuple #[.agg #[.int .u8 0, .string ⟨#[]⟩], .int .i64 0, .int .i64 1]) (by simp [results, Tryd.results20, go_sem, F.1, F.2]) rfl ⟨rfl, below_put2 hbw _ _⟩

end Go.Proofs.YtedglcbeheeonaaDoor
