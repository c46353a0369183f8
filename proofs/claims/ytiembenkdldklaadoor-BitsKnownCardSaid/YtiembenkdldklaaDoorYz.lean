/-
  Layer 8: the statements' SameInts, and the chapter's examples (works).
-/
import Derived.Test.YtiembenkdldklaaDoorYy
namespace Go.Proofs.YtiembenkdldklaaDoor
open Go Go.RowKit
set_option linter.unusedVariables false

set_option maxRecDepth 100000 in
theorem sints_any (B B' n c n' c' : Nat) (A A' : Option Addr) (l : List Int) (w : World) (h : Rd w B 1 A n (iz l)) (h' : Rd w B' 1 A' n' (iz l)) (hn : n ≤ 1000000000) :
    Calls Tryd.prog 31 #[.slice A n c, .slice A' n' c'] w fun e w' => e = .returned (.bool true) ∧ ∃ q, w' = w.drewN q := by
  have hl : l.length = n := by have := h.len; rw [iz_length] at this; omega
  have hl' : l.length = n' := by have := h'.len; rw [iz_length] at this; omega
  obtain rfl : n = n' := by omega
  have H1 := Lib_hid (fun (i : Nat) (hi : i < n) => iz_at h hi)
  have H2 := Lib_hid (fun (i : Nat) (hi : i < n) => iz_at h' hi)
  clear h h' hl hl'
  go_enter Tryd.func31, Tryd.ntmps31
  go_wp2
  go_loopw [5] (fun i wr => ∃ k q : Nat, i = .int .i64 k ∧ k ≤ n ∧ wr = w.drewN q) (fun i _ => n - (intOf i).toNat)
  case atStart => exact ⟨0, 0, rfl, Nat.zero_le _, rfl⟩
  case round =>
    obtain ⟨k, q, rfl, hk, rfl⟩ := hrel
    by_cases hlt : k < n
    · obtain ⟨ad, rfl, hb, c1⟩ := H1.out k hlt
      obtain ⟨ad', rfl, hb', c2⟩ := H2.out k hlt
      generalize l.getD k 0 = x at *
      go_wp2
      go_region
      go_wp2
      go_roundw
      case rel => exact ⟨k + 1, q + 1, by go_num, by omega, rfl⟩
      case measure => simp [intOf]; omega
    · obtain rfl : k = n := by omega
      go_wp2
      go_ret
      exact ⟨rfl, q, rfl⟩

/-- One set of the call's own, in a later world. -/
structure Ws (w : World) (lo hi p : Nat) (l : List Bool) (W : World) : Prop where
  b : Below w.heap.size w W
  z : BZ W lo hi p l
  ge : w.heap.size ≤ lo
  le : hi ≤ W.heap.size
section
variable {w X Y : World} {lo hi p : Nat} {l l' : List Bool}
theorem Ws.below (h : Ws w lo hi p l X) (hb : Below X.heap.size X Y) : Ws w lo hi p l Y := ⟨h.b.trans (hb.mono h.b.size), h.z.below hb h.le, h.ge, Nat.le_trans h.le hb.size⟩
theorem Ws.turn (h : Ws w lo hi p l X) (hz : BZ Y lo hi p l') (ht : Turns (fun k => lo ≤ k ∧ k < hi) X Y) : Ws w lo hi p l' Y :=
  ⟨h.b.trans (ht.below h.b.size (fun k e => Nat.le_trans h.ge e.1)), hz, h.ge, Nat.le_trans h.le ht.size⟩
theorem Ws.drewN (h : Ws w lo hi p l X) (q : Nat) : Ws w lo hi p l (X.drewN q) := ⟨below_drew_ h.b, h.z.drewN q, h.ge, h.le⟩
theorem Ws.alloc (h : Ws w lo hi p l X) (o : Obj) : Ws w lo hi p l (X.alloc o) := h.below (below_new X o)
theorem Ws.tab (h : Ws w lo hi p l X) (hT : BTab w) : BTab X := hT.below h.b hT.1
end
theorem NEnd.ws {w X Y : World} {l : List Bool} {e : Ending} (h : NEnd l X e Y) (hb : Below w.heap.size w X) : ∃ p, e = .returned (pv p) ∧ Ws w X.heap.size Y.heap.size p l Y ∧ Below X.heap.size X Y := by
  obtain ⟨p, e1, hz, hB⟩ := h
  exact ⟨p, e1, ⟨hb.trans (hB.mono hb.size), hz, hb.size, Nat.le_refl _⟩, hB⟩

def exA : List Bool := ofB 70 [3, 69, 70, -1, 3]
def exB : List Bool := addB exA 64
def exC : List Bool := remB exB 3
def exD : List Bool := ofB 100 [64, 5, 99]
def exE : List Bool := doB 0 exC [exD]
theorem ex_facts : allB exA = [3, 69] ∧ nextB exA 4 = (69, true) ∧ nextB exA 70 = (0, false) ∧ newB exA 3 = false ∧ addB exA 3 = exA ∧ newB exA 64 = true ∧ newB exB 70 = false ∧ addB exB 70 = exB ∧ hasB exB 3 = true ∧ hasB exC 3 = false ∧ remB exC 3 = exC ∧ manyB 0 exC [exD] = 1 ∧ allB exE = [5, 64, 69] := by decide +kernel

/-- A literal row of numbers. -/
theorem lit_rd (w : World) (xs : List Int) (T : TypeId) : Rd (w.alloc (.cells (iz xs).toArray T)) (w.heap.size + 1) 1 (some ⟨w.heap.size, 0, none⟩) xs.length (iz xs) := by
  refine ⟨by rw [iz_length]; omega, fun h0 => ⟨_, rfl, by simp, fun j u hu => ?_⟩⟩
  rw [add_plain, Nat.zero_add, cell_of_row _ _ j _ _ _ (heap_alloc_new w _)]
  simpa using hu

end Go.Proofs.YtiembenkdldklaaDoor
