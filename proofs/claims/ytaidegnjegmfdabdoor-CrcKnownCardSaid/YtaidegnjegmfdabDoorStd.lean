/-
  Contracts of the program's stand and of the document's Stands: a check's four bytes.
-/
import Derived.Test.YtaidegnjegmfdabDoorHlp
import Derived.Test.YtaidegnjegmfdabDoorCmb
namespace Go.Proofs.YtaidegnjegmfdabDoor
open Go Go.RowKit
set_option linter.unusedVariables false

/-- A check's bytes. -/
def std (v : Nat) : List Nat := [v / 16777216 % 256, v / 65536 % 256, v / 256 % 256, v % 256]
theorem std_byte (v : Nat) : ∀ x ∈ std v, x < 256 := by
  intro x hx
  simp only [std, List.mem_cons, List.not_mem_nil, or_false] at hx
  omega
theorem std_length (v : Nat) : (std v).length = 4 := rfl
theorem std_inj {v u : Nat} (hv : v < 4294967296) (hu : u < 4294967296) (h : std v = std u) : v = u := by
  simp only [std, List.cons.injEq, and_true] at h
  omega

/-- A literal's row in new memory. -/
theorem made_lit {w : World} (cs : Array Value) (l : List Nat) (hcs : cs.toList = bs l) (hn2 : l.length ≤ 1000) :
    Made 5 l w (.returned (.slice (some ⟨w.heap.size, 0, none⟩) l.length l.length)) (w.alloc (.cells cs 5)) := by
  refine ⟨_, _, rfl, ?_, (Below.refl _ _).alloc (Nat.le_refl _) _⟩
  rw [← hcs]
  exact World.ownsRow_lit w cs l.length (Nat.le_refl _) (by unfold maxLen; omega) (by have := congrArg List.length hcs; rw [bs_length] at this; simpa using this)

theorem made_lit_at {w : World} {A : Option Addr} (cs : Array Value) (l : List Nat) (hA : A = some ⟨w.heap.size, 0, none⟩) {n m : Nat} (hn : n = l.length) (hm : m = l.length) (hcs : cs.toList = bs l) (hn2 : l.length ≤ 1000) :
    Made 5 l w (.returned (.slice A n m)) (w.alloc (.cells cs 5)) := by
  subst hA hn hm
  exact made_lit cs l hcs hn2

set_option maxRecDepth 100000 in
theorem stand_any (v : Nat) (w : World) (hv : v < 4294967296) :
    Calls Tryd.prog 27 #[.int .u32 v] w (Made 5 (std v) w) := by
  have e : Hid (bs (std v) = [.int .u8 ((v : Int) / 16777216), .int .u8 ((v : Int) / 65536 % 256), .int .u8 ((v : Int) / 256 % 256), .int .u8 ((v : Int) % 256)]) := by
    unfold Hid; simp [bs, std]; omega
  go_enter Tryd.func27, Tryd.ntmps27
  go_wp2
  go_ret
  exact made_lit_at _ _ rfl rfl rfl (by rw [e.out]) (by rw [std_length]; decide)

set_option maxRecDepth 100000 in
theorem rstands_any (v : Nat) (w : World) (hv : v < 4294967296) :
    Calls Tryd.prog 17 #[.int .u32 v] w (Made 5 (std v) w) := by
  have e : Hid (bs (std v) = [.int .u8 ((v : Int) / 16777216), .int .u8 ((v : Int) / 65536 % 256), .int .u8 ((v : Int) / 256 % 256), .int .u8 ((v : Int) % 256)]) := by
    unfold Hid; simp [bs, std]; omega
  go_enter Tryd.func17, Tryd.ntmps17
  go_wp2
  go_ret
  exact made_lit_at _ _ rfl rfl rfl (by rw [e.out]) (by rw [std_length]; decide)

end Go.Proofs.YtaidegnjegmfdabDoor
