/-
  Layer 5: RecordPuts: what its walk needs.
-/
import Derived.Test.YtiiiklenhmhccaaGreatDoorZpVlk
import Derived.Test.YtiiiklenhmhccaaGreatDoorZpVcm
import Derived.Test.YtiiiklenhmhccaaGreatDoorZpInq
import Derived.Test.YtiiiklenhmhccaaGreatDoorZpVfw
import Derived.Test.YtiiiklenhmhccaaGreatDoorZpVtx
import Derived.Test.YtiiiklenhmhccaaGreatDoorZpVdc
import Derived.Test.YtiiiklenhmhccaaGreatDoorZpVcv
import Derived.Test.YtiiiklenhmhccaaGreatDoorZpInk

namespace Go.Proofs.YtiiiklenhmhccaaGreatDoor
open Go Go.RowKit
set_option linter.unusedVariables false
theorem arr11 (r : Rv) : ∃ a0 a1 a2 a3 a4 a5 a6 a7 a8 a9 a10 : Value, r.arr = #[a0, a1, a2, a3, a4, a5, a6, a7, a8, a9, a10] := ⟨_, _, _, _, _, _, _, _, _, _, _, rfl⟩
theorem size11 {xs : Array Value} (h : xs.size = 11) : ∃ a0 a1 a2 a3 a4 a5 a6 a7 a8 a9 a10 : Value, xs = #[a0, a1, a2, a3, a4, a5, a6, a7, a8, a9, a10] := by
  obtain ⟨l⟩ := xs
  match l, h with
  | [a0, a1, a2, a3, a4, a5, a6, a7, a8, a9, a10], _ => exact ⟨_, _, _, _, _, _, _, _, _, _, _, rfl⟩
theorem size2 {xs : Array Value} (h : xs.size = 2) : ∃ a0 a1 : Value, xs = #[a0, a1] := by
  obtain ⟨l⟩ := xs
  match l, h with
  | [a0, a1], _ => exact ⟨_, _, rfl⟩
theorem rowset11 {w : World} {g : Nat} {E : TypeId} {x0 x1 x2 x3 x4 x5 x6 x7 x8 x9 x10 : Value} (y0 y1 y2 y3 y4 y5 y6 y7 y8 y9 y10 : Value) (h : w.heap[g]? = some (.cells #[x0, x1, x2, x3, x4, x5, x6, x7, x8, x9, x10] E (0, 0))) : RowSet w (put11 w g y0 y1 y2 y3 y4 y5 y6 y7 y8 y9 y10) g #[y0, y1, y2, y3, y4, y5, y6, y7, y8, y9, y10] E :=
  have hg := put11_grow y0 y1 y2 y3 y4 y5 y6 y7 y8 y9 y10 w (g := g) g
  ⟨hg.os, hg.tape, hg.output, put11_size _ _ _ _ _ _ _ _ _ _ _ w, put11_row _ _ _ _ _ _ _ _ _ _ _ h, fun k hk => put11_else _ _ _ _ _ _ _ _ _ _ _ w hk⟩
theorem four_new (w : World) (o1 o2 o3 o4 : Obj) : (((((w.alloc o1).alloc o2).alloc o3).alloc o4).heap[w.heap.size]? = some o1 ∧ ((((w.alloc o1).alloc o2).alloc o3).alloc o4).heap[w.heap.size + 1]? = some o2 ∧ ((((w.alloc o1).alloc o2).alloc o3).alloc o4).heap[w.heap.size + 2]? = some o3 ∧ ((((w.alloc o1).alloc o2).alloc o3).alloc o4).heap[w.heap.size + 3]? = some o4) ∧
    ((((w.alloc o1).alloc o2).alloc o3).alloc o4).heap.size = w.heap.size + 4 ∧ Below w.heap.size w ((((w.alloc o1).alloc o2).alloc o3).alloc o4) := by
  have b := (((below_new w o1).alloc (by simp only [World.size_alloc]; omega) o2).alloc (by simp only [World.size_alloc]; omega) o3).alloc (by simp only [World.size_alloc]; omega) o4
  have h1 := heap_alloc_new w o1
  have h2 := heap_alloc_new (w.alloc o1) o2
  have h3 := heap_alloc_new ((w.alloc o1).alloc o2) o3
  have h4 := heap_alloc_new (((w.alloc o1).alloc o2).alloc o3) o4
  simp only [World.size_alloc] at h2 h3 h4
  exact ⟨⟨(Below.heap_alloc _ _ _ (by simp only [World.size_alloc]; omega)).trans ((Below.heap_alloc _ _ _ (by simp only [World.size_alloc]; omega)).trans ((Below.heap_alloc _ _ _ (by simp only [World.size_alloc]; omega)).trans h1)), (Below.heap_alloc _ _ _ (by simp only [World.size_alloc]; omega)).trans ((Below.heap_alloc _ _ _ (by simp only [World.size_alloc]; omega)).trans h2), (Below.heap_alloc _ _ _ (by simp only [World.size_alloc]; omega)).trans h3, h4⟩, by simp only [World.size_alloc], b⟩
def PutU (r : Rc) (w : World) (e : Ending) (w' : World) : Prop :=
  ∃ A c, e = .returned (.tuple #[.agg #[.int .u8 ((frD r).1 : Int), .slice A (frD r).2.length c], .int .i64 (erD r : Int)]) ∧ w'.ownsRow w.heap.size 5 1 (.slice A (frD r).2.length c) (frD r).2.length (bs (frD r).2) ∧ Below w.heap.size w w'
theorem putU {r : Rc} {w w' : World} {e : Ending} (h : PutEnd r w e w') : PutU r w e w' := by
  obtain ⟨hb, h1, h2⟩ := h
  unfold PutU frD erD
  cases hr : r.rightB with
  | false => exact ⟨none, 0, h1 hr, World.ownsRow_nil _ _ _ _, hb⟩
  | true =>
    obtain ⟨A, c, e1, ho⟩ := h2 hr
    have hk := (right_shape hr).1
    have hkk : ((r.kind.toNat : Nat) : Int) = r.kind := by omega
    simp only [if_true]
    rw [hkk]
    exact ⟨A, c, e1, ho, hb⟩
theorem frD_byte (r : Rc) : ∀ x ∈ (frD r).2, x < 256 := by
  unfold frD
  cases r.rightB with
  | false => simp
  | true => exact stand_byteR r
theorem sameR_self (r : Rc) : r.sameB r = true := by unfold Rc.sameB; simp [(sameB_iff r.p r.p).2 rfl]
theorem docsame_any (r u : Rv) (W : World) (lo hi lo2 hi2 : Nat) (hr : RLies W lo hi r) (h1 : hi ≤ W.heap.size) (hu : RLies W lo2 hi2 u) (h2 : hi2 ≤ W.heap.size) (he : r.abs = u.abs) (hct : r.p.abs.count ≤ 1000) (hes : r.es.length ≤ 100000) :
    Calls Tryz.prog 10 #[r.val] W fun e w' => ∃ uv, e = .returned uv ∧ Hid (∀ W', Below w'.heap.size w' W' → Calls Tryz.prog 21 #[uv, u.val] W' fun e w'' => e = .returned (.bool true) ∧ Below W'.heap.size W' w'') ∧ Below W.heap.size W w' := by
  refine (drec5_any r W lo hi hr h1 hct hes).mono ?_
  rintro e w' ⟨z, rfl, hza, hzL, hb⟩
  refine ⟨_, rfl, fun W' hW' => ?_, hb⟩
  have hs := hb.size
  have hs' := hW'.size
  refine (rsame5_any z u W' _ w'.heap.size lo2 hi2 (hzL.under hW') hs' (hu.under ((hb.mono h2).trans (hW'.mono (by omega)))) (by omega)).mono ?_
  rintro e w'' ⟨rfl, hb''⟩
  refine ⟨?_, hb''⟩
  rw [hza, he, sameR_self]
end Go.Proofs.YtiiiklenhmhccaaGreatDoor
