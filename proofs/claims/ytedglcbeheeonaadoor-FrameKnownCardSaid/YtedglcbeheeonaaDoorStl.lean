/-
  A literal's row of bytes in new memory; what was made behind a step is made behind all.
-/
import Derived.Test.YtedglcbeheeonaaDoorHlp
namespace Go.Proofs.YtedglcbeheeonaaDoor
open Go Go.RowKit
set_option linter.unusedVariables false

/-- A literal's row in new memory. -/
theorem made_lit {w : World} (cs : Array Value) (l : List Nat) (hcs : cs.toList = bs l) (hn2 : l.length ≤ 1000) :
    Made 5 l w (.returned (.slice (some ⟨w.heap.size, 0, none⟩) l.length l.length)) (w.alloc (.cells cs 5)) := by
  refine ⟨_, _, rfl, ?_, (Below.refl _ _).alloc (Nat.le_refl _) _⟩
  rw [← hcs]
  exact World.ownsRow_lit w cs l.length (Nat.le_refl _) (by unfold maxLen; omega) (by have := congrArg List.length hcs; rw [bs_length] at this; simpa using this)

theorem made_lit_at {w : World} {A : Option Addr} (cs : Array Value) (l : List Nat) (hA : A = some ⟨w.heap.size, 0, none⟩) {n m : Nat} (hn : n = l.length) (hm : m = l.length) (hcs : cs.toList = bs l) (hn2 : l.length ≤ 1000) :
    Made 5 l w (.returned (.slice A n m)) (w.alloc (.cells cs 5)) := by
  subst hA hn hm
  exact made_lit cs l hcs hn2

theorem Made.onto {E : TypeId} {ys : List Nat} {w w1 w' : World} {e : Ending} (h : Made E ys w1 e w') (hb : Below w.heap.size w w1) : Made E ys w e w' := by
  obtain ⟨A, c, he, ho, h2⟩ := h
  exact ⟨A, c, he, own_base ho (fun k hk => Nat.le_trans hb.size (own_ge ho k hk)), hb.trans (h2.mono hb.size)⟩

end Go.Proofs.YtedglcbeheeonaaDoor
