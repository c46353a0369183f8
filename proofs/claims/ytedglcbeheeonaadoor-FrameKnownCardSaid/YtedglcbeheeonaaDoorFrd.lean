/-
  The contract of the program's reader.frame: what stands at the reader's place.
-/
import Derived.Test.YtedglcbeheeonaaDoorFrg
import Derived.Test.YtedglcbeheeonaaDoorFpt
import Derived.Test.YtedglcbeheeonaaDoorFcl
import Derived.Deep.RegionHeld3
import Derived.RegionTactic
import Derived.Handy
namespace Go.Proofs.YtedglcbeheeonaaDoor
open Go Go.RowKit
set_option linter.unusedVariables false

/-- How a reader's frame ends: the reader lies in block g, its place in cell 1. -/
def FrEnd (r : FG) (g : Nat) (w : World) (e : Ending) (w' : World) : Prop :=
  match r with
  | .bad r => e = .returned (.tuple #[.agg #[.int .u8 0, .slice none 0 0], .int .i64 (r : Int)]) ∧ Below w.heap.size w w'
  | .good k p nx => ∃ A' c', e = .returned (.tuple #[.agg #[.int .u8 (k : Int), .slice A' p.length c'], .int .i64 0]) ∧ w'.ownsRow w.heap.size 5 1 (.slice A' p.length c') p.length (bs p) ∧
      ∃ w1, Below w.heap.size w w1 ∧ Below w.heap.size (w1.setCell ⟨g, 1, none⟩ (.int .i64 (nx : Int))) w'

theorem Rd.drewF {w : World} {B size n q : Nat} {A : Option Addr} {xs : List Value} (h : Rd w B size A n xs) : Rd (w.drewN q) B size A n xs := h.keep fun p _ => World.cell?_of_block rfl
theorem below_put2 {w W : World} (h : Below w.heap.size w W) (x y : Value) : Below w.heap.size w ((W.setCell ⟨w.heap.size, 0, none⟩ x).setCell ⟨w.heap.size, 1, none⟩ y) :=
  (h.setCell (p := ⟨w.heap.size, 0, none⟩) (Nat.le_refl _) _).setCell (p := ⟨w.heap.size, 1, none⟩) (Nat.le_refl _) _

set_option maxRecDepth 100000 in
theorem frame_out (g : Nat) (A : Option Addr) (n c : Nat) (a : Int) (w : World) (c0 : w.cell? ⟨g, 0, none⟩ = some (.slice A n c)) (c1 : w.cell? ⟨g, 1, none⟩ = some (.int .i64 a)) (h : a < 0 ∨ (n : Int) ≤ a) :
    Calls Tryd.prog 33 #[.pointer (some ⟨g, 0, none⟩)] w (FrEnd (.bad 1) g w) := by
  have hg := World.block_lt_of_cell? w _ c0
  simp only at hg
  by_cases h0 : a < 0
  · go_enter Tryd.func33, Tryd.ntmps33
    go_wp2
    go_quiet (fail)
    go_wp2
    exact bodyPost_ret (v := .tuple #[.agg #[.int .u8 0, .slice none 0 0], .int .i64 1]) (by simp [results, Tryd.results33, go_sem]) rfl ⟨rfl, below_put2 (below_drew_ (below_new _ _)) _ _⟩
  · have hn : (n : Int) ≤ a := by omega
    have hd : decide (a < 0) = false := by simpa using h0
    go_enter Tryd.func33, Tryd.ntmps33
    go_wp2
    go_quiet (fail)
    go_wp2
    exact bodyPost_ret (v := .tuple #[.agg #[.int .u8 0, .slice none 0 0], .int .i64 1]) (by simp [results, Tryd.results33, go_sem]) rfl ⟨rfl, below_put2 (below_drew_ (below_new _ _)) _ _⟩

/-- A reader of the bytes l, at place a. -/
structure Rdr (w : World) (B g : Nat) (A : Option Addr) (n c : Nat) (l : List Nat) (a : Nat) : Prop where
  c0 : w.cell? ⟨g, 0, none⟩ = some (.slice A n c)
  c1 : w.cell? ⟨g, 1, none⟩ = some (.int .i64 (a : Int))
  f1 : w.frozen? ⟨g, 1, none⟩ = false
  rd : Rd w B 1 A n (bs l)
  b8 : ∀ x ∈ l, x < 256
  nc : n ≤ c ∧ c ≤ 9223372036854775807
  n47 : n ≤ 1000000000
  hB : B ≤ w.heap.size
  hBg : B ≤ g

theorem vget_quiet {B : Nat} {A : Option Addr} {n c : Nat} {l : List Nat} {a : Int} {w : World} {j k : Nat} (x y z : Nat) (hx : getS l a = (x, y, z)) (h : Rd w B 1 A n (bs l)) (hb : ∀ x ∈ l, x < 256) (hn : n ≤ c) (hc : c ≤ 9223372036854775807) :
    Calls Tryd.prog 39 #[.slice A n c, .int .i64 a] (w.drewN (j + k)) fun e w'' => e = .returned (.tuple #[.int .u64 x, .int .i64 y, .int .i64 z]) ∧ ∃ q, w'' = w.drewN (j + q) := by
  have G := get_any B A n c l a (w.drewN (j + k)) (h.keep fun p _ => World.cell?_of_block rfl) hb hn hc
  rw [hx] at G
  refine G.mono ?_
  rintro e w' ⟨h1, rfl⟩
  exact ⟨h1, k, rfl⟩

set_option maxRecDepth 100000 in
theorem frame_bad (B g : Nat) (A : Option Addr) (n c : Nat) (l : List Nat) (a : Nat) (w : World) (h : Rdr w B g A n c l a) (ha : a < n) (x y z : Nat) (hx : getS l ((a + 1 : Nat) : Int) = (x, y, z)) (hz : z = 10 ∨ z = 4 ∨ (z = 0 ∧ n < y + 4 + x)) :
    Calls Tryd.prog 33 #[.pointer (some ⟨g, 0, none⟩)] w (FrEnd (frN l a) g w) := by
  obtain ⟨c0, c1, f1, hr, hb8, hnc, hn47, hB, hBg⟩ := h
  have hln : l.length = n := hr.count
  have hg := World.block_lt_of_cell? w _ c0
  simp only at hg
  have hr2 : Rd (w.alloc (.cells #[.int .u8 0, .slice none 0 0] 25)) B 1 A n (bs l) := hr.alloc hB _
  have hF := getS_form hb8 (by omega) hx
  have hd0 : decide ((a : Int) < 0) = false := by simp
  have hd1 : decide ((n : Int) ≤ (a : Int)) = false := by simp; omega
  have hx' : getS l ((a : Int) + 1) = (x, y, z) := hx
  have hwr : IntKind.i64.wrap ((a : Int) + 1) = (a : Int) + 1 := IntWalk.i64_in _ (by omega)
  rcases hz with rfl | rfl | ⟨rfl, hz⟩
  · rw [frN_len hx]
    have HX := Lib_hid hx'
    have HB := Lib_hid hb8
    clear hx hx' hF hln hb8 hr
    go_enter Tryd.func33, Tryd.ntmps33
    go_wp2
    go_quiet (fail)
    go_wp2
    go_quiet ((go_at_call 39; exact vget_quiet x y 10 HX.out hr2 HB.out hnc.1 hnc.2))
    go_wp2
    exact bodyPost_ret (v := .tuple #[.agg #[.int .u8 0, .slice none 0 0], .int .i64 2]) (by simp [results, Tryd.results33, go_sem]) rfl ⟨rfl, below_put2 (below_drew_ (below_new _ _)) _ _⟩
  · rw [frN_short hx (by omega) (.inl (by omega))]
    have hxl : (x : Int) ≤ 0 := by omega
    have hyl : (y : Int) ≤ 0 := by omega
    have HX := Lib_hid hx'
    have HB := Lib_hid hb8
    clear hx hx' hF hln hb8 hr
    go_enter Tryd.func33, Tryd.ntmps33
    go_wp2
    go_quiet (fail)
    go_wp2
    go_quiet ((go_at_call 39; exact vget_quiet x y 4 HX.out hr2 HB.out hnc.1 hnc.2))
    go_wp2
    exact bodyPost_ret (v := .tuple #[.agg #[.int .u8 0, .slice none 0 0], .int .i64 1]) (by simp [results, Tryd.results33, go_sem]) rfl ⟨rfl, below_put2 (below_drew_ (below_new _ _)) _ _⟩
  · rw [frN_short hx (by omega) (.inr (by omega))]
    have hxl : (x : Int) ≤ 18446744073709551615 := by omega
    have hyl : (y : Int) ≤ n := by omega
    by_cases hy : n < y + 4
    · have hy' : (n : Int) - y - 4 < 0 := by omega
      have HX := Lib_hid hx'
      have HB := Lib_hid hb8
      clear hx hx' hF hln hb8 hr
      go_enter Tryd.func33, Tryd.ntmps33
      go_wp2
      go_quiet (fail)
      go_wp2
      go_quiet ((go_at_call 39; exact vget_quiet x y 0 HX.out hr2 HB.out hnc.1 hnc.2))
      go_wp2
      exact bodyPost_ret (v := .tuple #[.agg #[.int .u8 0, .slice none 0 0], .int .i64 1]) (by simp [results, Tryd.results33, go_sem]) rfl ⟨rfl, below_put2 (below_drew_ (below_new _ _)) _ _⟩
    · have hy' : (0 : Int) ≤ (n : Int) - y - 4 := by omega
      have hz' : (n : Int) - y - 4 < x := by omega
      have HX := Lib_hid hx'
      have HB := Lib_hid hb8
      clear hx hx' hF hln hb8 hr
      go_enter Tryd.func33, Tryd.ntmps33
      go_wp2
      go_quiet (fail)
      go_wp2
      go_quiet ((go_at_call 39; exact vget_quiet x y 0 HX.out hr2 HB.out hnc.1 hnc.2))
      go_wp2
      exact bodyPost_ret (v := .tuple #[.agg #[.int .u8 0, .slice none 0 0], .int .i64 1]) (by simp [results, Tryd.results33, go_sem]) rfl ⟨rfl, below_put2 (below_drew_ (below_new _ _)) _ _⟩

end Go.Proofs.YtedglcbeheeonaaDoor
