/-
  The contract of the statement's told, for the program's All.
-/
import Derived.Test.YtedglcbeheeonaaDoorSam
namespace Go.Proofs.YtedglcbeheeonaaDoor
open Go Go.RowKit Go.Shelf
set_option linter.unusedVariables false

attribute [local go_sem] Oper.semAt_some

theorem size_pd (wx : World) : ((sizeOf 71).run Tryd.prog wx) = .ok 4 wx := by
  obtain ⟨i0, hi, hz0, hz1, hz2⟩ := info_parts Tryd.info71
  simp [sizeOf, typeInfo, hi, hz1]
theorem elem_pd : Tryd.prog.elem 40 = 71 := by kernel_rfl

/-- want[k:k+1] -/
theorem slice_pd {w : World} {B n c j k : Nat} {A : Option Addr} {xs : List Value} (h : Rd w B 4 A n xs) (hj : j ≤ k) (hk : k ≤ n) (hn : n ≤ c) (hc : c ≤ 9223372036854775807) :
    ∃ A2, (∀ wx, (Instr.slice 40 (.slice A n c) (some (.int .i64 (j : Int))) (some (.int .i64 (k : Int))) none).run Tryd.prog wx = .ok (.slice A2 (k - j) (c - j)) wx) ∧ Rd w B 4 A2 (k - j) ((xs.take (k * 4)).drop (j * 4)) := by
  have r := (h.take hk).cut (cap := c) (k := j) hj (by omega)
  refine ⟨_, ?_, r⟩
  intro wx
  rw [run_slice_lh wx 40 A n c (by rw [elem_pd]; exact Tryd.underlying40) .i64 .i64 j k (by omega) (by omega) (by omega), elem_pd, size_pd]
  simp [sliced, Result.andThen]

theorem pd_part {ds : List Dv} {i : Nat} {d : Dv} (h : ds[i]? = some d) : ((pdCells ds).take ((i + 1) * 4)).drop (i * 4) = pdCells [d] := by
  apply List.ext_getElem?
  intro j
  rw [List.getElem?_drop, List.getElem?_take]
  by_cases hj : j < 4
  · rw [if_pos (by omega), pdCells_at ds i j d h hj]
    have := pdCells_at [d] 0 j d rfl hj
    simpa using this.symm
  · rw [if_neg (by omega), List.getElem?_eq_none (by rw [pdCells_length]; simp; omega)]

/-- told's seven boxes. -/
structure ToB (w : World) (aw : Value) (t0 r most k : Int) (ok res : Bool) (W : World) : Prop where
  b0 : W.heap[w.heap.size]? = some (.cells #[aw] 40 (0, 0))
  b1 : W.heap[w.heap.size + 1]? = some (.cells #[.int .i64 t0] 3 (0, 0))
  b2 : W.heap[w.heap.size + 2]? = some (.cells #[.int .i64 r] 41 (0, 0))
  b3 : W.heap[w.heap.size + 3]? = some (.cells #[.int .i64 most] 3 (0, 0))
  b4 : W.heap[w.heap.size + 4]? = some (.cells #[.bool res] 4 (0, 0))
  b5 : W.heap[w.heap.size + 5]? = some (.cells #[.int .i64 k] 3 (0, 0))
  b6 : W.heap[w.heap.size + 6]? = some (.cells #[.bool ok] 4 (0, 0))
  b : Below w.heap.size w W
section
variable {w X Y : World} {aw : Value} {t0 r most k : Int} {ok res : Bool}
theorem ToB.size (h : ToB w aw t0 r most k ok res X) : w.heap.size + 6 < X.heap.size := (Array.getElem?_eq_some_iff.1 h.b6).1
theorem ToB.keep (h : ToB w aw t0 r most k ok res X) (hk : ∀ i, w.heap.size ≤ i → i < w.heap.size + 7 → Y.heap[i]? = X.heap[i]?) (hb : Below w.heap.size w Y) : ToB w aw t0 r most k ok res Y :=
  ⟨(hk _ (by omega) (by omega)).trans h.b0, (hk _ (by omega) (by omega)).trans h.b1, (hk _ (by omega) (by omega)).trans h.b2, (hk _ (by omega) (by omega)).trans h.b3, (hk _ (by omega) (by omega)).trans h.b4, (hk _ (by omega) (by omega)).trans h.b5, (hk _ (by omega) (by omega)).trans h.b6, hb⟩
theorem ToB.grown (h : ToB w aw t0 r most k ok res X) {row : Nat} (hr : w.heap.size + 7 ≤ row) (hg : X.grownBy Y (some row)) : ToB w aw t0 r most k ok res Y :=
  h.keep (fun i _ hi => hg.block i (by have := h.size; omega) (fun e => by injection e with e; omega)) (h.b.grown hg h.b.size (fun i hi => by injection hi with hi; omega))
theorem ToB.below (h : ToB w aw t0 r most k ok res X) (hb : Below X.heap.size X Y) : ToB w aw t0 r most k ok res Y :=
  h.keep (fun i _ hi => hb.block i (by have := h.size; omega)) (h.b.trans (hb.mono h.b.size))
theorem ToB.like (h : ToB w aw t0 r most k ok res X) (e1 : Y.os = X.os) (e2 : Y.tape = X.tape) (e3 : Y.output = X.output) (e4 : Y.heap = X.heap) : ToB w aw t0 r most k ok res Y :=
  h.keep (fun _ _ _ => by rw [e4]) (below_like h.b e1 e2 e3 e4)
theorem ToB.set4 (h : ToB w aw t0 r most k ok res X) (v : Bool) : ToB w aw t0 r most k ok v (X.setCell ⟨w.heap.size + 4, 0, none⟩ (.bool v)) := by
  have hg := grown_set X (w.heap.size + 4) 0 (.bool v)
  have hs := h.size
  have q : ∀ {i : Nat} {o : Obj}, i ≠ w.heap.size + 4 → i < X.heap.size → X.heap[i]? = some o → (X.setCell ⟨w.heap.size + 4, 0, none⟩ (.bool v)).heap[i]? = some o := fun h1 h2 h3 => (hg.block _ h2 (fun e => by injection e with e; omega)).trans h3
  exact ⟨q (by omega) (by omega) h.b0, q (by omega) (by omega) h.b1, q (by omega) (by omega) h.b2, q (by omega) (by omega) h.b3, Joins.block_setCell h.b4 _, q (by omega) (by omega) h.b5, q (by omega) (by omega) h.b6, h.b.grown hg h.b.size (fun i hi => by injection hi with hi; omega)⟩
theorem ToB.set5 (h : ToB w aw t0 r most k ok res X) (v : Int) : ToB w aw t0 r most v ok res (X.setCell ⟨w.heap.size + 5, 0, none⟩ (.int .i64 v)) := by
  have hg := grown_set X (w.heap.size + 5) 0 (.int .i64 v)
  have hs := h.size
  have q : ∀ {i : Nat} {o : Obj}, i ≠ w.heap.size + 5 → i < X.heap.size → X.heap[i]? = some o → (X.setCell ⟨w.heap.size + 5, 0, none⟩ (.int .i64 v)).heap[i]? = some o := fun h1 h2 h3 => (hg.block _ h2 (fun e => by injection e with e; omega)).trans h3
  exact ⟨q (by omega) (by omega) h.b0, q (by omega) (by omega) h.b1, q (by omega) (by omega) h.b2, q (by omega) (by omega) h.b3, q (by omega) (by omega) h.b4, Joins.block_setCell h.b5 _, q (by omega) (by omega) h.b6, h.b.grown hg h.b.size (fun i hi => by injection hi with hi; omega)⟩
theorem ToB.set6 (h : ToB w aw t0 r most k ok res X) (v : Bool) : ToB w aw t0 r most k v res (X.setCell ⟨w.heap.size + 6, 0, none⟩ (.bool v)) := by
  have hg := grown_set X (w.heap.size + 6) 0 (.bool v)
  have hs := h.size
  have q : ∀ {i : Nat} {o : Obj}, i ≠ w.heap.size + 6 → i < X.heap.size → X.heap[i]? = some o → (X.setCell ⟨w.heap.size + 6, 0, none⟩ (.bool v)).heap[i]? = some o := fun h1 h2 h3 => (hg.block _ h2 (fun e => by injection e with e; omega)).trans h3
  exact ⟨q (by omega) (by omega) h.b0, q (by omega) (by omega) h.b1, q (by omega) (by omega) h.b2, q (by omega) (by omega) h.b3, q (by omega) (by omega) h.b4, q (by omega) (by omega) h.b5, Joins.block_setCell h.b6 _, h.b.grown hg h.b.size (fun i hi => by injection hi with hi; omega)⟩
end

theorem allocs_get : ∀ (os : List Obj) (w : World) (i : Nat) (o : Obj), os[i]? = some o → (os.foldl World.alloc w).heap[w.heap.size + i]? = some o
  | [], _, _, _, h => by simp at h
  | x :: os, w, i, o, h => by
    rw [List.foldl_cons]
    cases i with
    | zero =>
      simp at h
      subst h
      have : ∀ (os : List Obj) (X : World) (k : Nat) (o : Obj), X.heap[k]? = some o → (os.foldl World.alloc X).heap[k]? = some o := by
        intro os
        induction os with
        | nil => intro X k o h; exact h
        | cons y os ih => intro X k o h; exact ih _ _ _ ((heap_alloc_old X y (Array.getElem?_eq_some_iff.1 h).1).trans h)
      exact this os _ _ _ (heap_alloc_new w x)
    | succ i =>
      have := allocs_get os (w.alloc x) i o (by simpa using h)
      rw [World.size_alloc] at this
      rw [← this]; congr 1; omega
theorem allocs_below : ∀ (os : List Obj) (w : World), Below w.heap.size w (os.foldl World.alloc w) ∧ (os.foldl World.alloc w).heap.size = w.heap.size + os.length
  | [], w => ⟨Below.refl _ _, rfl⟩
  | x :: os, w => by
    obtain ⟨h1, h2⟩ := allocs_below os (w.alloc x)
    rw [List.foldl_cons]
    rw [World.size_alloc] at h1 h2
    exact ⟨(below_new w x).trans (h1.mono (by omega)), by rw [h2]; simp; omega⟩

/-- What may have been told when the next one comes. -/
theorem Part.next {l : List Nat} {pre : List Ev} {x : Ev} {ds : List Dv} {t0 r : Nat} (h : Part l (pre ++ [x])) (hs : splitS l = (ds, t0, r)) :
    (x.r = 0 ∧ pre.length < ds.length ∧ ds[pre.length]? = some x.abs) ∨ (r ≠ 0 ∧ x = Ev.bad t0 r ∧ pre.length = ds.length) := by
  rcases h with ⟨h1, a, ha⟩ | ⟨gs, e, r', h1, h2, h3, h4⟩
  · left
    obtain ⟨rest, e, hp⟩ := ha.pre
    rw [hs] at hp
    injection hp with hp _
    rw [List.map_append, List.append_assoc] at hp
    refine ⟨h1 x (by simp), ?_, ?_⟩
    · rw [hp]; simp
    · rw [hp, List.getElem?_append_right (by simp)]; simp
  · right
    obtain ⟨rfl, h5⟩ := List.append_inj' h2 rfl
    rw [hs] at h4
    injection h4 with h4 h6
    injection h6 with h6 h7
    subst h6 h7
    refine ⟨h1, by simpa using h5, by rw [h4]; simp⟩

end Go.Proofs.YtedglcbeheeonaaDoor
