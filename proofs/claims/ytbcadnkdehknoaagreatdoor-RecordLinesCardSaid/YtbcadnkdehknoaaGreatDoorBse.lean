/-
  What every seat's texts share: the byte's row of the table of types; slices in new memory.
-/
import Derived.Test.YtbcadnkdehknoaaGreatDoorChecked
import Derived.Test.YtbcadnkdehknoaaGreatDoorMem
import Derived.WalkSpells
import Derived.Deep.QuietTactic
import Derived.BigQuiet
namespace Go.Proofs.YtbcadnkdehknoaaGreatDoor
open Go Go.RowKit
set_option linter.unusedVariables false

theorem Tryz.info5 : (Tryz.prog.info? 5).map (fun i => (i.zero, i.size, i.bytes)) = some (some (.int .u8 0), 1, 1) := by kernel_rfl

theorem ret_int {k : IntKind} {a b : Int} (h : a = b) : Ending.returned (.int k a) = .returned (.int k b) := by rw [h]
theorem int_beq (a b : Nat) : ((a : Int) == (b : Int)) = (a == b) := by rw [Bool.eq_iff_iff]; simp [Int.natCast_inj]
theorem int_bne (a b : Nat) : ((a : Int) != (b : Int)) = (a != b) := by simp only [bne, int_beq]

theorem own_none (w : World) (B : Nat) (E : TypeId) : w.ownsRow B E 1 (.slice none 0 0) 0 [] := World.ownsRow_nil w B E 1

/-- Ends with a slice in new memory that reads as the bytes ys; nothing that was there has turned. -/
def Made (E : TypeId) (ys : List Nat) (w : World) (e : Ending) (w' : World) : Prop :=
  ∃ A c, e = .returned (.slice A ys.length c) ∧ w'.ownsRow w.heap.size E 1 (.slice A ys.length c) ys.length (bs ys) ∧ Below w.heap.size w w'

theorem made_iff {E : TypeId} {ys : List Nat} {w : World} {e : Ending} {w' : World} : Made E ys w e w' ↔ ∃ A n c, e = .returned (.slice A n c) ∧ w'.ownsRow w.heap.size E 1 (.slice A n c) n (bs ys) ∧ Below w.heap.size w w' := by
  constructor
  · rintro ⟨A, c, h⟩; exact ⟨A, _, c, h⟩
  · rintro ⟨A, n, c, he, ho, hb⟩
    have hl : ys.length = n := by have := ho.1; rw [bs_length] at this; omega
    subst hl
    exact ⟨A, c, he, ho, hb⟩

theorem made_of_grew {E : TypeId} {ys : List Nat} {w : World} {e : Ending} {w' : World} (h : Grew E w.heap.size (.slice none 0 0) (bs ys) w e w') : Made E ys w e w' := by
  obtain ⟨A, n, c, he, ho, hs⟩ := h
  have hl : ys.length = n := by have := ho.1; rw [bs_length] at this; omega
  subst hl
  exact ⟨A, c, he, ho, hs.below (Nat.le_refl _) (by intro k hk; simp [Value.ownBlock] at hk)⟩

end Go.Proofs.YtbcadnkdehknoaaGreatDoor
