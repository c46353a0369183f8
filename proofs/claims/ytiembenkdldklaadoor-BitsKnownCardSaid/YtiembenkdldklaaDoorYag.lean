/-
  Layer 8: the statements' does: two sets of the document's put into two boxes, in any of twelve orders (region 13): what holds behind it.
-/
import Derived.Test.YtiembenkdldklaaDoorYad
namespace Go.Proofs.YtiembenkdldklaaDoor
open Go Go.RowKit
set_option linter.unusedVariables false

/-- A box of a set, empty. -/
def Bx (w : World) (a : Nat) : Prop := w.heap[a]? = some (.cells #[.slice none 0 0] 33 (0, 0))
def BF (W : World) (a b : Nat) (x : Value) : Prop := W.cell? ⟨a, 0, none⟩ = some (.slice none 0 0) ∧ W.frozen? ⟨a, 0, none⟩ = false ∧ (W.setCell ⟨a, 0, none⟩ x).cell? ⟨b, 0, none⟩ = some (.slice none 0 0) ∧ (W.setCell ⟨a, 0, none⟩ x).frozen? ⟨b, 0, none⟩ = false ∧
  W.cell? ⟨b, 0, none⟩ = some (.slice none 0 0) ∧ W.frozen? ⟨b, 0, none⟩ = false ∧ (W.setCell ⟨b, 0, none⟩ x).cell? ⟨a, 0, none⟩ = some (.slice none 0 0) ∧ (W.setCell ⟨b, 0, none⟩ x).frozen? ⟨a, 0, none⟩ = false
theorem bf2 {W : World} {a b : Nat} (x : Value) (h0 : Bx W a) (h1 : Bx W b) (hne : a ≠ b) : BF W a b x := by
  have h2 := (heap_setCell_other W ⟨a, 0, none⟩ b x (by show b ≠ a; omega)).trans h1
  have h3 := (heap_setCell_other W ⟨b, 0, none⟩ a x (by show a ≠ b; omega)).trans h0
  exact ⟨cell_of_row _ _ 0 _ _ _ h0, frozen_of_row _ _ 0 _ _ h0, cell_of_row _ _ 0 _ _ _ h2, frozen_of_row _ _ 0 _ _ h2, cell_of_row _ _ 0 _ _ _ h1, frozen_of_row _ _ 0 _ _ h1, cell_of_row _ _ 0 _ _ _ h3, frozen_of_row _ _ 0 _ _ h3⟩
theorem Bx.lt {w : World} {a : Nat} (h : Bx w a) : a < w.heap.size := (Array.getElem?_eq_some_iff.1 h).1
theorem Bx.new (u : World) : Bx (u.alloc (.cells #[.slice none 0 0] 33)) u.heap.size := heap_alloc_new u _
theorem Bx.old {u : World} {a : Nat} (h : Bx u a) (o : Obj) : Bx (u.alloc o) a := (heap_alloc_old _ _ h.lt).trans h
theorem Bx.below {u u' : World} {a : Nat} (h : Bx u a) (hb : Below u.heap.size u u') : Bx u' a := (hb.block _ h.lt).trans h
theorem bf1 {u : World} {a : Nat} (x : Value) (h : Bx u a) : BF (u.alloc (.cells #[.slice none 0 0] 33)) a u.heap.size x := bf2 x (h.old _) (Bx.new u) (by have := h.lt; omega)
theorem bf0 (u : World) (x : Value) : BF ((u.alloc (.cells #[.slice none 0 0] 33)).alloc (.cells #[.slice none 0 0] 33)) u.heap.size (u.heap.size + 1) x := by
  have := bf1 x (Bx.new u)
  rwa [World.size_alloc] at this
theorem below_dr {B : Nat} {a b : World} (h : Below B a b) : Below B a b.drew := ⟨h.os, h.tape, h.output, h.size, h.block⟩
theorem bf9 {u : World} {a : Nat} (x : Value) (h : Bx u a) : (u.alloc (.cells #[x] 33)).cell? ⟨a, 0, none⟩ = some (.slice none 0 0) ∧ (u.alloc (.cells #[x] 33)).frozen? ⟨a, 0, none⟩ = false :=
  ⟨cell_of_row _ _ 0 _ _ _ (h.old _), frozen_of_row _ _ 0 _ _ (h.old _)⟩
theorem one_kept {V u : World} (h : Below (V.alloc (.cells #[.slice none 0 0] 33)).heap.size (V.alloc (.cells #[.slice none 0 0] 33)) u) : Bx u V.heap.size := (Bx.new V).below h
theorem two_kept {V u : World} (h : Below ((V.alloc (.cells #[.slice none 0 0] 33)).alloc (.cells #[.slice none 0 0] 33)).heap.size ((V.alloc (.cells #[.slice none 0 0] 33)).alloc (.cells #[.slice none 0 0] 33)) u) : Bx u V.heap.size ∧ Bx u (V.heap.size + 1) := by
  refine ⟨((Bx.new V).old _).below h, ?_⟩
  have := one_kept h
  rwa [World.size_alloc] at this

/-- Behind the region: the two boxes hold the two sets. -/
structure Two (wy W : World) (g1 g2 : Nat) (A3 : Option Addr) (c3 : Nat) (A4 : Option Addr) (c4 : Nat) (lx ly : List Bool) : Prop where
  b : Below wy.heap.size wy W
  h1 : W.heap[g1]? = some (.cells #[.slice A3 lx.length c3] 33 (0, 0))
  h2 : W.heap[g2]? = some (.cells #[.slice A4 ly.length c4] 33 (0, 0))
  ne : g1 ≠ g2 ∧ wy.heap.size ≤ g1 ∧ wy.heap.size ≤ g2
  d1 : DS W W.heap.size (.agg #[.slice A3 lx.length c3]) lx
  d2 : DS W W.heap.size (.agg #[.slice A4 ly.length c4]) ly

section
variable {wy u : World} {a b c3 c4 : Nat} {A3 A4 : Option Addr} {lx ly : List Bool}
theorem Bx.row {w : World} {a : Nat} (h : Bx w a) (A : Option Addr) (n c : Nat) : (w.setCell ⟨a, 0, none⟩ (.slice A n c)).heap[a]? = some (.cells #[.slice A n c] 33 (0, 0)) := by
  rw [heap_setCell_same w a 0 _ _ _ h]; rfl
theorem Bx.other {w : World} {a b : Nat} (h : Bx w a) (hne : a ≠ b) (v : Value) : Bx (w.setCell ⟨b, 0, none⟩ v) a := (heap_setCell_other _ _ _ _ hne).trans h
theorem DS.boxed {w : World} {v x : Value} {l : List Bool} (h : DS w w.heap.size v l) (hx : Bx w a) : DS (w.setCell ⟨a, 0, none⟩ x) (w.setCell ⟨a, 0, none⟩ x).heap.size v l :=
  (h.setBox hx).more (turns_setCell w a 0 x).size
theorem DS.alloced {w : World} {v : Value} {l : List Bool} (h : DS w w.heap.size v l) (o : Obj) : DS (w.alloc o) (w.alloc o).heap.size v l := (h.below (below_new w o)).more (below_new w o).size

/-- Both boxes stood ahead of both stores. -/
theorem two5 (hu : Below wy.heap.size wy u) (ha : Bx u a) (hb : Bx u b) (hne : a ≠ b) (h1 : wy.heap.size ≤ a) (h2 : wy.heap.size ≤ b) (d1 : DS u u.heap.size (.agg #[.slice A3 lx.length c3]) lx) (d2 : DS u u.heap.size (.agg #[.slice A4 ly.length c4]) ly) :
    Two wy ((u.setCell ⟨a, 0, none⟩ (.slice A3 lx.length c3)).setCell ⟨b, 0, none⟩ (.slice A4 ly.length c4)) a b A3 c3 A4 c4 lx ly := by
  have hb2 := hb.other (b := a) (by omega) (.slice A3 lx.length c3)
  refine ⟨(hu.setCell (p := ⟨a, 0, none⟩) h1 _).setCell (p := ⟨b, 0, none⟩) h2 _, ?_, hb2.row _ _ _, ⟨hne, h1, h2⟩, (d1.boxed ha).boxed hb2, (d2.boxed ha).boxed hb2⟩
  exact (heap_setCell_other _ _ _ _ hne).trans (ha.row _ _ _)
/-- The second box was made last. -/
theorem two3 (hu : Below wy.heap.size wy u) (ha : Bx u a) (h1 : wy.heap.size ≤ a) (d1 : DS u u.heap.size (.agg #[.slice A3 lx.length c3]) lx) (d2 : DS u u.heap.size (.agg #[.slice A4 ly.length c4]) ly) :
    Two wy (((u.alloc (.cells #[.slice none 0 0] 33)).setCell ⟨a, 0, none⟩ (.slice A3 lx.length c3)).setCell ⟨u.heap.size, 0, none⟩ (.slice A4 ly.length c4)) a u.heap.size A3 c3 A4 c4 lx ly :=
  two5 (hu.alloc hu.size _) (ha.old _) (Bx.new u) (by have := ha.lt; omega) h1 hu.size (d1.alloced _) (d2.alloced _)
/-- The first box was made last, and written at once. -/
theorem two4 (hu : Below wy.heap.size wy u) (ha : Bx u a) (h1 : wy.heap.size ≤ a) (d1 : DS u u.heap.size (.agg #[.slice A3 lx.length c3]) lx) (d2 : DS u u.heap.size (.agg #[.slice A4 ly.length c4]) ly) :
    Two wy ((u.alloc (.cells #[.slice A3 lx.length c3] 33)).setCell ⟨a, 0, none⟩ (.slice A4 ly.length c4)) u.heap.size a A3 c3 A4 c4 lx ly := by
  have ha2 := ha.old (.cells #[.slice A3 lx.length c3] 33)
  have hne : u.heap.size ≠ a := by have := ha.lt; omega
  exact ⟨(hu.alloc hu.size _).setCell (p := ⟨a, 0, none⟩) h1 _, (heap_setCell_other _ _ _ _ hne).trans (heap_alloc_new u _), ha2.row _ _ _, ⟨hne, hu.size, h1⟩, (d1.alloced _).boxed ha2, (d2.alloced _).boxed ha2⟩
/-- Both boxes were made behind the calls. -/
theorem two1 (hu : Below wy.heap.size wy u) (d1 : DS u u.heap.size (.agg #[.slice A3 lx.length c3]) lx) (d2 : DS u u.heap.size (.agg #[.slice A4 ly.length c4]) ly) :
    Two wy ((u.alloc (.cells #[.slice A3 lx.length c3] 33)).alloc (.cells #[.slice A4 ly.length c4] 33)) u.heap.size (u.heap.size + 1) A3 c3 A4 c4 lx ly := by
  have hb := hu.alloc hu.size (.cells #[.slice A3 lx.length c3] 33)
  have hn := heap_alloc_new (u.alloc (.cells #[.slice A3 lx.length c3] 33)) (.cells #[.slice A4 ly.length c4] 33)
  rw [World.size_alloc] at hn
  exact ⟨hb.alloc hb.size _, (heap_alloc_old _ _ (by simp)).trans (heap_alloc_new u _), hn, ⟨by omega, hu.size, by have := hu.size; omega⟩, (d1.alloced _).alloced _, (d2.alloced _).alloced _⟩
theorem two2 (hu : Below wy.heap.size wy u) (d1 : DS u u.heap.size (.agg #[.slice A3 lx.length c3]) lx) (d2 : DS u u.heap.size (.agg #[.slice A4 ly.length c4]) ly) :
    Two wy ((u.alloc (.cells #[.slice A4 ly.length c4] 33)).alloc (.cells #[.slice A3 lx.length c3] 33)) (u.heap.size + 1) u.heap.size A3 c3 A4 c4 lx ly := by
  have h := two1 hu d2 d1
  exact ⟨h.b, h.h2, h.h1, ⟨h.ne.1.symm, h.ne.2.2, h.ne.2.1⟩, h.d2, h.d1⟩
end

end Go.Proofs.YtiembenkdldklaaDoor
