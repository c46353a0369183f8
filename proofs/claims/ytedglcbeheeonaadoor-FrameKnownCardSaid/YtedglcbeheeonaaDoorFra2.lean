/-
  A range over the program's frames (All): the law for whatever body.
-/
import Derived.Test.YtedglcbeheeonaaDoorFtl
namespace Go.Proofs.YtedglcbeheeonaaDoor
open Go Go.RowKit Go.Shelf
set_option linter.unusedVariables false

/-- What a piece of a round keeps: the bytes, the table, the loop's own three blocks. -/
def KeepD (A : Option Addr) (H : Nat) (X Y : World) : Prop :=
  X.heap.size ≤ Y.heap.size ∧ ∀ k, k < X.heap.size → (k = 0 ∨ (∃ ad, A = some ad ∧ k = ad.block) ∨ (H ≤ k ∧ k < H + 3)) → Y.heap[k]? = X.heap[k]?
theorem KeepD.refl (A : Option Addr) (H : Nat) (X : World) : KeepD A H X X := ⟨Nat.le_refl _, fun _ _ _ => rfl⟩
theorem KeepD.trans {A : Option Addr} {H : Nat} {X Y Z : World} (h : KeepD A H X Y) (k : KeepD A H Y Z) : KeepD A H X Z :=
  ⟨Nat.le_trans h.1 k.1, fun j hj hx => (k.2 j (Nat.lt_of_lt_of_le hj h.1) hx).trans (h.2 j hj hx)⟩

/-- How a round's body may end. -/
def roundEnd (I : List Ev → World → Prop) (Ix : Code → List Ev → World → Prop) (A : Option Addr) (H : Nat) (xs : List Ev) (W : World) : Exit → Act → World → Prop
  | .normal, _, W' => KeepD A H W W' ∧ I xs W'
  | .ret, _, W' => KeepD A H W W' ∧ Ix .ret xs W'
  | .exit id, _, W' => KeepD A H W W' ∧ Ix (.exit id) xs W'
  | _, _, _ => False

theorem putObj_grown (W : World) (j : Nat) (o : Obj) : W.grownBy (W.putObj j o) (some j) := grownBy_putObj' W j o

theorem range_tell {N m n c : Nat} {A : Option Addr} {l : List Nat} {g : Operand} {ps : Array Tmp} {assign body : Code} {Q : Exit → Act → World → Prop} {a : Act} {w : World}
    (hg : a.eval g = .func (.func 32) #[.agg #[.slice A n c, .int .i64 0]] #[]) (hps : ps.size = 2)
    (hT : Tab w) (hr : Rd w w.heap.size 1 A n (bs l)) (hA : ∀ ad, A = some ad → ad.block < w.heap.size) (hb8 : ∀ x ∈ l, x < 256) (hnc : n ≤ c ∧ c ≤ 9223372036854775807) (hn : n ≤ 1000000000)
    (I : List Ev → World → Prop) (Ix : Code → List Ev → World → Prop)
    (hI : ∀ s X Y r, I s X → w.heap.size ≤ r → r < w.heap.size + 3 → X.grownBy Y (some r) → I s Y) (hIx : ∀ cc s X Y r, Ix cc s X → w.heap.size ≤ r → r < w.heap.size + 3 → X.grownBy Y (some r) → Ix cc s Y)
    (h0 : I [] w)
    (hround : ∀ pre x W0 W, I pre W0 → W0.grownBy W (some (w.heap.size + 2)) → w.heap.size + 2 < W0.heap.size → OwnX x W0 W → Part l (pre ++ [x]) →
      assign.wpIn (Fence.wide.inRound (w.heap.size + 1)) m Tryd.prog (Exit.then (fun a₁ w₁ => KeepD A w.heap.size W w₁ ∧ ∀ w₂, w₁.grownBy w₂ (some (w.heap.size + 1)) → body.wpIn (Fence.wide.inRound (w.heap.size + 1)) m Tryd.prog (roundEnd I Ix A w.heap.size (pre ++ [x]) w₂) a₁ w₂) (fun _ _ _ => False))
        { tmps := (ps.zip x.enc).foldl (fun t (p, v) => t.setIfInBounds p v) a.tmps, defers := [] } W)
    (hdone : ∀ xs W, Full l xs → I xs W → W.heap[w.heap.size]? = some (.deferred (some [])) → Q .normal { a with defers := { target := .collected w.heap.size, args := #[] } :: a.defers } W)
    (hstop : ∀ cc pre W, Part l pre → Ix cc pre W → W.heap[w.heap.size]? = some (.deferred (some [])) → cc.wpIn Fence.wide N Tryd.prog Q { a with defers := { target := .collected w.heap.size, args := #[] } :: a.defers } W) :
    (Code.rangeFunc g ps assign body).wpIn Fence.wide N Tryd.prog Q a w := by
  refine wpIn_rangeFunc fun fn hfn => ?_
  let rec' : LoopState → Option Code → Loop := fun st pe => { state := st, pending := pe, fn, tmps := a.tmps, params := ps, assign, body, defers := w.heap.size }
  let W1 : World := (w.alloc (.deferred (some []))).alloc (.loop (rec' .ready none))
  have hs1 : W1.heap.size = w.heap.size + 2 := by simp [W1]
  have hL : W1.heap[w.heap.size + 1]? = some (.loop (rec' .ready none)) := by
    have := heap_alloc_new (w.alloc (.deferred (some []))) (.loop (rec' .ready none))
    rwa [World.size_alloc] at this
  have hD : W1.heap[w.heap.size]? = some (.deferred (some [])) := (heap_alloc_old _ _ (by simp)).trans (heap_alloc_new w _)
  have hb1 : Below w.heap.size w W1 := ((Below.refl _ w).alloc (Nat.le_refl _) _).alloc (by simp) _
  have hI1 : I [] W1 := hI _ _ _ (w.heap.size + 1) (hI _ _ _ w.heap.size h0 (Nat.le_refl _) (by omega) (World.grownBy_alloc w _ _)) (by omega) (by omega) (World.grownBy_alloc _ _ _)
  refine ⟨w.heap.size + 1, [{ target := .collected w.heap.size, args := #[] }], W1, { target := .fn (.func 32) #[], args := #[.agg #[.slice A n c, .int .i64 0], .func (.yield (w.heap.size + 1)) #[] #[]] }, W1, 32,
    #[.agg #[.slice A n c, .int .i64 0], .func (.yield (w.heap.size + 1)) #[] #[]], W1, run_enterLoop_outer _ _ _ _ _, ?_, fun _ _ => trivial, ?_, (fun h => by cases h), ?_⟩
  · simp only [resolve, hg]
    simp [go_sem]
  · simp [invoke, go_sem]
  · refine (callsIn_wide.2 (callsIn_wide.1 (tell_any m (w.heap.size + 1) A n c l W1
      (fun pre X => I pre X ∧ X.heap[w.heap.size + 1]? = some (.loop (rec' .ready none)) ∧ X.heap[w.heap.size]? = some (.deferred (some [])))
      (fun pre X => ∃ cc, Ix cc pre X ∧ X.heap[w.heap.size + 1]? = some (.loop (rec' .done (some cc))) ∧ X.heap[w.heap.size]? = some (.deferred (some [])))
      (hT.below hb1 hT.1) ((hr.below hb1).more (by omega)) hb8 hnc hn ?_ ?_ ⟨hI1, hL, hD⟩))).mono ?_
    · rintro s X Y ⟨h1, h2, h3⟩ hgr
      rw [hs1] at hgr
      exact ⟨hI _ _ _ _ h1 (by omega) (by omega) hgr, (hgr.block _ (Array.getElem?_eq_some_iff.1 h2).1 (fun e => by injection e with e; omega)).trans h2, (hgr.block _ (Array.getElem?_eq_some_iff.1 h3).1 (fun e => by injection e with e; omega)).trans h3⟩
    · rintro pre x W0 W ⟨hi, hl0, hd0⟩ hgr hlt hox hpt
      rw [hs1] at hgr hlt
      have hgs := hgr.size
      have hl0' := (Array.getElem?_eq_some_iff.1 hl0).1
      have hl := (hgr.block _ hl0' (fun e => by injection e with e; omega)).trans hl0
      have hd := (hgr.block _ (Array.getElem?_eq_some_iff.1 hd0).1 (fun e => by injection e with e; omega)).trans hd0
      refine ⟨fn, _, assign, body, run_yield hl (by show x.enc.size = ps.size; rw [hps]; rfl), roundIn_of_wpIn hfn (wpIn_mono (hround pre x W0 W hi hgr hlt hox hpt) ?_)⟩
      rintro e a1 w1 hq
      cases e with
      | normal =>
        obtain ⟨hk1, hbody⟩ := hq
        have hl1 := (hk1.2 _ (by omega) (.inr (.inr ⟨by omega, by omega⟩))).trans hl
        have hd1 := (hk1.2 _ (by omega) (.inr (.inr ⟨by omega, by omega⟩))).trans hd
        have hl1' := (Array.getElem?_eq_some_iff.1 hl1).1
        refine ⟨_, run_beginRound hl1 rfl, ?_⟩
        have hg2 := putObj_grown w1 (w.heap.size + 1) (.loop { rec' .ready none with state := .busy })
        have hl2 : (w1.putObj (w.heap.size + 1) (.loop { rec' .ready none with state := .busy })).heap[w.heap.size + 1]? = some (.loop { rec' .ready none with state := .busy }) := World.putObj_heap_same hl1'
        have hd2 := (hg2.block _ (Array.getElem?_eq_some_iff.1 hd1).1 (fun e => by injection e with e; omega)).trans hd1
        refine wpIn_mono (hbody _ hg2) ?_
        -- behind the body: the loop's record says how it went
        have fin : ∀ (jump : Option Code) (W3 : World), KeepD A w.heap.size (w1.putObj (w.heap.size + 1) (.loop { rec' .ready none with state := .busy })) W3 →
            (Instr.endRound (w.heap.size + 1) jump).run Tryd.prog W3 = .ok (.bool jump.isNone) (W3.putObj (w.heap.size + 1) (.loop (rec' (if jump.isNone then .ready else .done) jump))) ∧ W3.grownBy (W3.putObj (w.heap.size + 1) (.loop (rec' (if jump.isNone then .ready else .done) jump))) (some (w.heap.size + 1)) ∧
            (W3.putObj (w.heap.size + 1) (.loop (rec' (if jump.isNone then .ready else .done) jump))).heap[w.heap.size + 1]? = some (.loop (rec' (if jump.isNone then .ready else .done) jump)) ∧
            (W3.putObj (w.heap.size + 1) (.loop (rec' (if jump.isNone then .ready else .done) jump))).heap[w.heap.size]? = some (.deferred (some [])) := by
          intro jump W3 hk3
          have hl3 := (hk3.2 _ (Array.getElem?_eq_some_iff.1 hl2).1 (.inr (.inr ⟨by omega, by omega⟩))).trans hl2
          have hd3 := (hk3.2 _ (Array.getElem?_eq_some_iff.1 hd2).1 (.inr (.inr ⟨by omega, by omega⟩))).trans hd2
          have hg3 := putObj_grown W3 (w.heap.size + 1) (.loop (rec' (if jump.isNone then .ready else .done) jump))
          exact ⟨run_endRound jump hl3, hg3, World.putObj_heap_same (Array.getElem?_eq_some_iff.1 hl3).1, (hg3.block _ (Array.getElem?_eq_some_iff.1 hd3).1 (fun e => by injection e with e; omega)).trans hd3⟩
        rintro e a3 W3 hp
        cases e with
        | normal =>
          obtain ⟨hk3, hi3⟩ := hp
          obtain ⟨h1, h2, h3, h4⟩ := fin none W3 hk3
          refine ⟨_, _, h1, .inl ⟨rfl, ⟨hI _ _ _ _ hi3 (by omega) (by omega) h2, h3, h4⟩, ?_⟩⟩
          rw [hs1]
          have hsz := hk1.1
          have hsz3 : w1.heap.size ≤ W3.heap.size := Nat.le_trans hg2.size hk3.1
          have hsz4 := h2.size
          refine ⟨by omega, fun k hk hx => ?_⟩
          have hne : k ≠ w.heap.size + 1 := by
            rcases hx with rfl | ⟨ad, e, rfl⟩ | rfl
            · have := hT.1; omega
            · have := hA ad e; omega
            · omega
          have hx' : k = 0 ∨ (∃ ad, A = some ad ∧ k = ad.block) ∨ (w.heap.size ≤ k ∧ k < w.heap.size + 3) := by
            rcases hx with h | h | h
            · exact .inl h
            · exact .inr (.inl h)
            · exact .inr (.inr ⟨by omega, by omega⟩)
          exact (h2.block k (by omega) (fun e => by injection e with e; omega)).trans ((hk3.2 k (Nat.lt_of_lt_of_le (by omega : k < w1.heap.size) hg2.size) hx').trans ((hg2.block k (by omega) (fun e => by injection e with e; omega)).trans (hk1.2 k hk hx')))
        | ret =>
          obtain ⟨hk3, hi3⟩ := hp
          obtain ⟨h1, h2, h3, h4⟩ := fin (some .ret) W3 hk3
          exact ⟨_, _, h1, .inr ⟨rfl, .ret, hIx _ _ _ _ _ hi3 (by omega) (by omega) h2, h3, h4⟩⟩
        | exit id =>
          obtain ⟨hk3, hi3⟩ := hp
          obtain ⟨h1, h2, h3, h4⟩ := fin (some (.exit id)) W3 hk3
          exact ⟨_, _, h1, .inr ⟨rfl, .exit id, hIx _ _ _ _ _ hi3 (by omega) (by omega) h2, h3, h4⟩⟩
        | goto t => exact hp.elim
        | panic ch => exact hp.elim
        | outgrown => exact hp.elim
      | exit id => exact hq.elim
      | goto t => exact hq.elim
      | ret => exact hq.elim
      | panic ch => exact hq.elim
      | outgrown => exact hq.elim
    · rintro e W2 ⟨⟨v, rfl⟩, (⟨xs, hF, hi, hl, hd⟩ | ⟨pre, hP, cc, hi, hl, hd⟩)⟩
      · have h2 := putObj_grown W2 (w.heap.size + 1) (.loop { rec' .ready none with state := .exhausted })
        exact ⟨none, _, run_endLoop hl (by simp [rec']), hdone xs _ hF (hI _ _ _ _ hi (by omega) (by omega) h2) ((h2.block _ (Array.getElem?_eq_some_iff.1 hd).1 (fun e => by injection e with e; omega)).trans hd)⟩
      · have h2 := putObj_grown W2 (w.heap.size + 1) (.loop { rec' .done (some cc) with state := .exhausted })
        exact ⟨some cc, _, run_endLoop hl (by simp [rec']), hstop cc pre _ hP (hIx _ _ _ _ _ hi (by omega) (by omega) h2) ((h2.block _ (Array.getElem?_eq_some_iff.1 hd).1 (fun e => by injection e with e; omega)).trans hd)⟩

end Go.Proofs.YtedglcbeheeonaaDoor
