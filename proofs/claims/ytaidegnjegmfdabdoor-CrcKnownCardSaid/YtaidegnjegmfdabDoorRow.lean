/-
  Contracts of the program's Row: Value, Len, Copy, Add, of one that is there and of none.
-/
import Derived.Test.YtaidegnjegmfdabDoorTak
namespace Go.Proofs.YtaidegnjegmfdabDoor
open Go Go.RowKit
set_option linter.unusedVariables false

theorem St.cell0 {w : World} {g : Nat} {T : TypeId} {s : Nat} {z : Int} (h : St w g T s z) : w.cell? ⟨g, 0, none⟩ = some (.int .u32 (s : Nat)) := Joins.cell_of_block h 0
theorem St.cell1 {w : World} {g : Nat} {T : TypeId} {s : Nat} {z : Int} (h : St w g T s z) : w.cell? ⟨g, 1, none⟩ = some (.int .i64 z) := Joins.cell_of_block h 1

theorem value_any (g : Nat) (T : TypeId) (s : Nat) (z : Int) (w : World) (hS : St w g T s z) :
    Calls Tryd.prog 12 #[.pointer (some ⟨g, 0, none⟩)] w fun e w' => e = .returned (.int .u32 (s : Nat)) ∧ w = w' := by
  have c0 := hS.cell0
  go_enter Tryd.func12, Tryd.ntmps12
  go_wp2
  go_ret
  exact ⟨rfl, rfl⟩
theorem value_nil (w : World) : Calls Tryd.prog 12 #[.pointer none] w fun e w' => e = .returned (.int .u32 0) ∧ w = w' := by
  go_enter Tryd.func12, Tryd.ntmps12
  go_wp2
  go_ret
  exact ⟨rfl, rfl⟩
theorem len_any (g : Nat) (T : TypeId) (s : Nat) (z : Int) (w : World) (hS : St w g T s z) :
    Calls Tryd.prog 13 #[.pointer (some ⟨g, 0, none⟩)] w fun e w' => e = .returned (.int .i64 z) ∧ w = w' := by
  have c1 := hS.cell1
  go_enter Tryd.func13, Tryd.ntmps13
  go_wp2
  go_ret
  exact ⟨rfl, rfl⟩
theorem len_nil (w : World) : Calls Tryd.prog 13 #[.pointer none] w fun e w' => e = .returned (.int .i64 0) ∧ w = w' := by
  go_enter Tryd.func13, Tryd.ntmps13
  go_wp2
  go_ret
  exact ⟨rfl, rfl⟩
theorem copy_nil (w : World) : Calls Tryd.prog 11 #[.pointer none] w fun e w' => e = .returned (.pointer none) ∧ w = w' := by
  go_enter Tryd.func11, Tryd.ntmps11
  go_wp2
  go_ret
  exact ⟨rfl, rfl⟩
theorem add_nil (v : Value) (w : World) : Calls Tryd.prog 14 #[.pointer none, v] w fun e w' => e = .returned (.tuple #[]) ∧ w = w' := by
  go_enter Tryd.func14, Tryd.ntmps14
  go_wp2
  go_end0
  exact ⟨rfl, rfl⟩
theorem add_any (g : Nat) (T : TypeId) (s : Nat) (z : Int) (B : Nat) (A : Option Addr) (n c : Nat) (l : List Nat) (w : World) (hT : Tab w) (hS : St w g T s z) (hs : s < 4294967296) (hrd : Rd w B 1 A n (bs l)) (hb : ∀ x ∈ l, x < 256) (hn : n ≤ 9223372036854775807) :
    Calls Tryd.prog 14 #[.pointer (some ⟨g, 0, none⟩), .slice A n c] w fun e w' => e = .returned (.tuple #[]) ∧ St w' g T (neg (regs (neg s) l)) (wrap64 (z + n)) ∧ w.grownBy w' (some g) := by
  have G := take_any g T s z B A n c l w hT hS hs hrd hb hn
  go_enter Tryd.func14, Tryd.ntmps14
  go_wp2_with fail
  refine G.mono ?_
  rintro e w' ⟨rfl, h1, h2⟩
  go_wp2_with fail
  go_end0
  exact ⟨rfl, h1, h2⟩
theorem copy_any (g : Nat) (T : TypeId) (s : Nat) (z : Int) (w : World) (hS : St w g T s z) :
    Calls Tryd.prog 11 #[.pointer (some ⟨g, 0, none⟩)] w fun e w' => e = .returned (.pointer (some ⟨w.heap.size, 0, none⟩)) ∧ w' = w.alloc (.cells #[.int .u32 (s : Nat), .int .i64 z] 32) := by
  have c0 := hS.cell0
  have c1 := hS.cell1
  go_enter Tryd.func11, Tryd.ntmps11
  go_wp2
  go_ret
  exact ⟨rfl, rfl⟩

end Go.Proofs.YtaidegnjegmfdabDoor
