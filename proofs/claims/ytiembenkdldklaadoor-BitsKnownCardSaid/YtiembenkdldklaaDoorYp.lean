/-
  Layer 8: a range over a set's words: the contract of words, of what it hands back; the law for whatever body.
-/
import Derived.Test.YtiembenkdldklaaDoorYo
import Derived.RangeFuncNested
import Derived.RangeFuncBound
import Derived.RangeFuncCalls
import Derived.RangeFuncLeaves
import Derived.Shelf.Abstract
import Derived.OwnWalkIn
import Derived.TacticsInMore
import Derived.LoopNIn
import Derived.LoopIn
namespace Go.Proofs.YtiembenkdldklaaDoor
open Go Go.RowKit Go.Shelf
set_option linter.unusedVariables false

theorem words_any (s : Value) (fr : Int) (hs : s = .pointer none ∨ ∃ p, s = pv p) (w : World) : Calls Tryd.prog 34 #[s, .int .i64 fr] w fun e w' =>
    e = .returned (.func (.func 50) #[] #[pv w.heap.size, pv (w.heap.size + 1)]) ∧ w' = (w.alloc (.cells #[s] 26)).alloc (.cells #[.int .i64 fr] 3) := by
  rcases hs with rfl | ⟨p, rfl⟩
  all_goals
    go_enter Tryd.func34, Tryd.ntmps34
    go_wp2
    go_ret
    exact ⟨rfl, rfl⟩

/-- What the walk over the words reads, from the word at j on. -/
structure It (b1 b2 p n : Nat) (fr : Nat) (A : Option Addr) (c : Nat) (ws : Nat → Nat) (j : Nat) (W : World) : Prop where
  r1 : W.cell? ⟨b1, 0, none⟩ = some (pv p)
  r2 : W.cell? ⟨b2, 0, none⟩ = some (.int .i64 (fr : Int))
  r3 : W.cell? ⟨p, 1, none⟩ = some (.slice A n c)
  r4 : ∀ i, j ≤ i → i < n → ∃ g, A = some ⟨g, 0, none⟩ ∧ W.cell? ⟨g, i, none⟩ = some (.int .u64 (ws i : Int))

set_option maxRecDepth 100000 in
set_option maxHeartbeats 1000000 in
theorem iter_any (m L b1 b2 p n fr c : Nat) (A : Option Addr) (ws : Nat → Nat) (W : World) (J Jx : Nat → World → Prop) (hn : n ≤ 1000000) (hfr : fr ≤ 9223372036854775807) (hc : n ≤ c ∧ c ≤ 9223372036854775807)
    (hR : ∀ j W, J j W → It b1 b2 p n fr A c ws j W)
    (hY : ∀ j W, J j W → fr ≤ j → j < n → YieldAt Fence.wide m Tryd.prog L #[.int .i64 (j : Int), .int .u64 (ws j : Int)] W fun e W' =>
      (e = .returned (.bool true) ∧ J (j + 1) W') ∨ (e = .returned (.bool false) ∧ Jx j W'))
    (h0 : J fr W) :
    CallsIn Fence.wide (m + 1) Tryd.prog 50 #[.func (.yield L) #[] #[], pv b1, pv b2] W fun e W' => (∃ v, e = .returned v) ∧ (J (max fr n) W' ∨ ∃ j, fr ≤ j ∧ j < n ∧ Jx j W') := by
  have hr0 := hR fr W h0
  have c1 := hr0.r1
  have c2 := hr0.r2
  refine callsIn_of_wp Tryd.func50 rfl trivial ?_ rfl
  simp only [Tryd.ntmps50, List.size_toArray, List.length_cons, List.length_nil, Nat.reduceAdd, Nat.reduceSub, Array.replicate_succ, Array.replicate_zero, List.push_toArray, List.append_toArray, List.nil_append, List.cons_append]
  clear hr0
  gi_wp2
  gi_loopw [4] (fun x wr => ∃ j : Nat, x = .int .i64 j ∧ fr ≤ j ∧ j ≤ max fr n ∧ J j wr) (fun x _ => max fr n - (intOf x).toNat)
  case atStart => exact ⟨fr, rfl, Nat.le_refl _, Nat.le_max_left _ _, h0⟩
  case round =>
    clear h0
    obtain ⟨j, rfl, hj, hjm, hJ⟩ := hrel
    have hr := hR j wr hJ
    have c1 := hr.r1
    have c2 := hr.r2
    have c3 := hr.r3
    by_cases hlt : j < n
    · obtain ⟨g, rfl, c4⟩ := hr.r4 j (Nat.le_refl _) hlt
      obtain ⟨fn, tmps, assign, body, hy, hR2⟩ := hY j wr hJ hj hlt
      have HX : Hid (j + 1 ≤ max fr n) := by unfold Hid; omega
      clear hr
      gi_wp2
      refine hR2.mono ?_
      rintro e W' (⟨rfl, hJ'⟩ | ⟨rfl, hJx'⟩)
      · gi_wp2
        go_roundw
        case rel => exact ⟨j + 1, by go_num, by omega, HX.out, hJ'⟩
        case measure => have := HX.out; simp [intOf]; omega
      · gi_wp2
        exact bodyPost_ret (v := .tuple #[]) (by simp [results, Tryd.results50, go_sem]) rfl ⟨⟨_, rfl⟩, .inr ⟨j, hj, hlt, hJx'⟩⟩
    · have e : j = max fr n := by omega
      have hJ2 : J (max fr n) wr := by rw [← e]; exact hJ
      clear hr e
      gi_wp2
      go_end0
      exact ⟨⟨_, rfl⟩, .inl hJ2⟩

set_option maxRecDepth 100000 in
theorem iter_nil (m L b1 b2 : Nat) (W : World) (h : W.cell? ⟨b1, 0, none⟩ = some (.pointer none)) : CallsIn Fence.wide (m + 1) Tryd.prog 50 #[.func (.yield L) #[] #[], pv b1, pv b2] W fun e W' => (∃ v, e = .returned v) ∧ W' = W := by
  refine callsIn_of_wp Tryd.func50 rfl trivial ?_ rfl
  simp only [Tryd.ntmps50, List.size_toArray, List.length_cons, List.length_nil, Nat.reduceAdd, Nat.reduceSub, Array.replicate_succ, Array.replicate_zero, List.push_toArray, List.append_toArray, List.nil_append, List.cons_append]
  gi_wp2
  exact bodyPost_ret (v := .tuple #[]) (by simp [results, Tryd.results50, go_sem]) rfl ⟨⟨_, rfl⟩, rfl⟩

/-- What a piece of a round keeps: the loop's own two blocks. -/
def KeepD (H : Nat) (X Y : World) : Prop := X.heap.size ≤ Y.heap.size ∧ ∀ k, k < X.heap.size → (k = H ∨ k = H + 1) → Y.heap[k]? = X.heap[k]?
theorem KeepD.refl (H : Nat) (X : World) : KeepD H X X := ⟨Nat.le_refl _, fun _ _ _ => rfl⟩
theorem KeepD.trans {H : Nat} {X Y Z : World} (h : KeepD H X Y) (k : KeepD H Y Z) : KeepD H X Z :=
  ⟨Nat.le_trans h.1 k.1, fun j hj hx => (k.2 j (Nat.lt_of_lt_of_le hj h.1) hx).trans (h.2 j hj hx)⟩
theorem KeepD.turns {S : Nat → Prop} {H : Nat} {X Y : World} (h : Turns S X Y) (h1 : ¬ S H) (h2 : ¬ S (H + 1)) : KeepD H X Y :=
  ⟨h.size, fun k hk hx => h.block k hk (by rcases hx with rfl | rfl <;> assumption)⟩
/-- How a round's body may end. -/
def roundEnd (I : Nat → World → Prop) (Ix : Code → Nat → World → Prop) (H : Nat) (j : Nat) (W : World) : Exit → Act → World → Prop
  | .normal, _, W' => KeepD H W W' ∧ I (j + 1) W'
  | .ret, _, W' => KeepD H W W' ∧ Ix .ret j W'
  | .exit id, _, W' => KeepD H W W' ∧ Ix (.exit id) j W'
  | _, _, _ => False
theorem putObj_grown (W : World) (j : Nat) (o : Obj) : W.grownBy (W.putObj j o) (some j) := grownBy_putObj' W j o

set_option maxRecDepth 100000 in
theorem range_words {N m b1 b2 p n fr c : Nat} {A : Option Addr} {ws : Nat → Nat} {g : Operand} {ps : Array Tmp} {assign body : Code} {Q : Exit → Act → World → Prop} {a : Act} {w : World}
    (hg : a.eval g = .func (.func 50) #[] #[pv b1, pv b2]) (hps : ps.size = 2) (hn : n ≤ 1000000) (hfr : fr ≤ 9223372036854775807) (hc : n ≤ c ∧ c ≤ 9223372036854775807)
    (I : Nat → World → Prop) (Ix : Code → Nat → World → Prop)
    (hR : ∀ j W, I j W → It b1 b2 p n fr A c ws j W)
    (hI : ∀ s X Y r, I s X → w.heap.size ≤ r → r < w.heap.size + 2 → X.grownBy Y (some r) → I s Y) (hIx : ∀ cc s X Y r, Ix cc s X → w.heap.size ≤ r → r < w.heap.size + 2 → X.grownBy Y (some r) → Ix cc s Y)
    (h0 : I fr w)
    (hround : ∀ j W, I j W → w.heap.size + 1 < W.heap.size → fr ≤ j → j < n →
      assign.wpIn (Fence.wide.inRound (w.heap.size + 1)) m Tryd.prog (Exit.then (fun a₁ w₁ => KeepD w.heap.size W w₁ ∧ ∀ w₂, w₁.grownBy w₂ (some (w.heap.size + 1)) → body.wpIn (Fence.wide.inRound (w.heap.size + 1)) m Tryd.prog (roundEnd I Ix w.heap.size j w₂) a₁ w₂) (fun _ _ _ => False))
        { tmps := (ps.zip #[.int .i64 (j : Int), .int .u64 (ws j : Int)]).foldl (fun t (p, v) => t.setIfInBounds p v) a.tmps, defers := [] } W)
    (hdone : ∀ W, I (max fr n) W → W.heap[w.heap.size]? = some (.deferred (some [])) → Q .normal { a with defers := { target := .collected w.heap.size, args := #[] } :: a.defers } W)
    (hstop : ∀ cc j W, fr ≤ j → j < n → Ix cc j W → W.heap[w.heap.size]? = some (.deferred (some [])) → cc.wpIn Fence.wide N Tryd.prog Q { a with defers := { target := .collected w.heap.size, args := #[] } :: a.defers } W) :
    (Code.rangeFunc g ps assign body).wpIn Fence.wide N Tryd.prog Q a w := by
  refine wpIn_rangeFunc fun fn hfn => ?_
  let rec' : LoopState → Option Code → Loop := fun st pe => { state := st, pending := pe, fn, tmps := a.tmps, params := ps, assign, body, defers := w.heap.size }
  let W1 : World := (w.alloc (.deferred (some []))).alloc (.loop (rec' .ready none))
  have hs1 : W1.heap.size = w.heap.size + 2 := by simp [W1]
  have hL : W1.heap[w.heap.size + 1]? = some (.loop (rec' .ready none)) := by
    have := heap_alloc_new (w.alloc (.deferred (some []))) (.loop (rec' .ready none))
    rwa [World.size_alloc] at this
  have hD : W1.heap[w.heap.size]? = some (.deferred (some [])) := (heap_alloc_old _ _ (by simp)).trans (heap_alloc_new w _)
  have hI1 : I fr W1 := hI _ _ _ (w.heap.size + 1) (hI _ _ _ w.heap.size h0 (Nat.le_refl _) (by omega) (World.grownBy_alloc w _ _)) (by omega) (by omega) (World.grownBy_alloc _ _ _)
  refine ⟨w.heap.size + 1, [{ target := .collected w.heap.size, args := #[] }], W1, { target := .fn (.func 50) #[pv b1, pv b2], args := #[.func (.yield (w.heap.size + 1)) #[] #[]] }, W1, 50,
    #[.func (.yield (w.heap.size + 1)) #[] #[], pv b1, pv b2], W1, run_enterLoop_outer _ _ _ _ _, ?_, fun _ _ => trivial, ?_, (fun h => by cases h), ?_⟩
  · simp only [resolve, hg]
    simp [go_sem]
  · simp [invoke, go_sem]
  · refine (callsIn_wide.2 (callsIn_wide.1 (iter_any m (w.heap.size + 1) b1 b2 p n fr c A ws W1
      (fun j X => I j X ∧ X.heap[w.heap.size + 1]? = some (.loop (rec' .ready none)) ∧ X.heap[w.heap.size]? = some (.deferred (some [])))
      (fun j X => ∃ cc, Ix cc j X ∧ X.heap[w.heap.size + 1]? = some (.loop (rec' .done (some cc))) ∧ X.heap[w.heap.size]? = some (.deferred (some [])))
      hn hfr hc (fun j W h => hR j W h.1) ?_ ⟨hI1, hL, hD⟩))).mono ?_
    · rintro j W ⟨hi, hl, hd⟩ hjf hjn
      have hl' := (Array.getElem?_eq_some_iff.1 hl).1
      refine ⟨fn, _, assign, body, run_yield hl (by show 2 = ps.size; rw [hps]), roundIn_of_wpIn hfn (wpIn_mono (hround j W hi hl' hjf hjn) ?_)⟩
      rintro e a1 w1 hq
      cases e with
      | normal =>
        obtain ⟨hk1, hbody⟩ := hq
        have hl1 := (hk1.2 _ (by omega) (.inr rfl)).trans hl
        have hd1 := (hk1.2 _ (by omega) (.inl rfl)).trans hd
        have hl1' := (Array.getElem?_eq_some_iff.1 hl1).1
        refine ⟨_, run_beginRound hl1 rfl, ?_⟩
        have hg2 := putObj_grown w1 (w.heap.size + 1) (.loop { rec' .ready none with state := .busy })
        have hl2 : (w1.putObj (w.heap.size + 1) (.loop { rec' .ready none with state := .busy })).heap[w.heap.size + 1]? = some (.loop { rec' .ready none with state := .busy }) := World.putObj_heap_same hl1'
        have hd2 := (hg2.block _ (Array.getElem?_eq_some_iff.1 hd1).1 (fun e => by injection e with e; omega)).trans hd1
        refine wpIn_mono (hbody _ hg2) ?_
        have fin : ∀ (jump : Option Code) (W3 : World), KeepD w.heap.size (w1.putObj (w.heap.size + 1) (.loop { rec' .ready none with state := .busy })) W3 →
            (Instr.endRound (w.heap.size + 1) jump).run Tryd.prog W3 = .ok (.bool jump.isNone) (W3.putObj (w.heap.size + 1) (.loop (rec' (if jump.isNone then .ready else .done) jump))) ∧ W3.grownBy (W3.putObj (w.heap.size + 1) (.loop (rec' (if jump.isNone then .ready else .done) jump))) (some (w.heap.size + 1)) ∧
            (W3.putObj (w.heap.size + 1) (.loop (rec' (if jump.isNone then .ready else .done) jump))).heap[w.heap.size + 1]? = some (.loop (rec' (if jump.isNone then .ready else .done) jump)) ∧
            (W3.putObj (w.heap.size + 1) (.loop (rec' (if jump.isNone then .ready else .done) jump))).heap[w.heap.size]? = some (.deferred (some [])) := by
          intro jump W3 hk3
          have hl3 := (hk3.2 _ (Array.getElem?_eq_some_iff.1 hl2).1 (.inr rfl)).trans hl2
          have hd3 := (hk3.2 _ (Array.getElem?_eq_some_iff.1 hd2).1 (.inl rfl)).trans hd2
          have hg3 := putObj_grown W3 (w.heap.size + 1) (.loop (rec' (if jump.isNone then .ready else .done) jump))
          exact ⟨run_endRound jump hl3, hg3, World.putObj_heap_same (Array.getElem?_eq_some_iff.1 hl3).1, (hg3.block _ (Array.getElem?_eq_some_iff.1 hd3).1 (fun e => by injection e with e; omega)).trans hd3⟩
        rintro e a3 W3 hp
        cases e with
        | normal =>
          obtain ⟨hk3, hi3⟩ := hp
          obtain ⟨h1, h2, h3, h4⟩ := fin none W3 hk3
          exact ⟨_, _, h1, .inl ⟨rfl, hI _ _ _ _ hi3 (by omega) (by omega) h2, h3, h4⟩⟩
        | ret =>
          obtain ⟨hk3, hi3⟩ := hp
          obtain ⟨h1, h2, h3, h4⟩ := fin (some .ret) W3 hk3
          exact ⟨_, _, h1, .inr ⟨rfl, .ret, hIx _ _ _ _ _ hi3 (by omega) (by omega) h2, h3, h4⟩⟩
        | exit id =>
          obtain ⟨hk3, hi3⟩ := hp
          obtain ⟨h1, h2, h3, h4⟩ := fin (some (.exit id)) W3 hk3
          exact ⟨_, _, h1, .inr ⟨rfl, .exit id, hIx _ _ _ _ _ hi3 (by omega) (by omega) h2, h3, h4⟩⟩
        | goto t => exact hp.elim
        | panic ch => exact hp.elim
        | outgrown => exact hp.elim
      | exit id => exact hq.elim
      | goto t => exact hq.elim
      | ret => exact hq.elim
      | panic ch => exact hq.elim
      | outgrown => exact hq.elim
    · rintro e W2 ⟨⟨v, rfl⟩, (⟨hi, hl, hd⟩ | ⟨j, hjf, hjn, cc, hi, hl, hd⟩)⟩
      · have h2 := putObj_grown W2 (w.heap.size + 1) (.loop { rec' .ready none with state := .exhausted })
        exact ⟨none, _, run_endLoop hl (by simp [rec']), hdone _ (hI _ _ _ _ hi (by omega) (by omega) h2) ((h2.block _ (Array.getElem?_eq_some_iff.1 hd).1 (fun e => by injection e with e; omega)).trans hd)⟩
      · have h2 := putObj_grown W2 (w.heap.size + 1) (.loop { rec' .done (some cc) with state := .exhausted })
        exact ⟨some cc, _, run_endLoop hl (by simp [rec']), hstop cc j _ hjf hjn (hIx _ _ _ _ _ hi (by omega) (by omega) h2) ((h2.block _ (Array.getElem?_eq_some_iff.1 hd).1 (fun e => by injection e with e; omega)).trans hd)⟩

set_option maxRecDepth 100000 in
/-- Of a set that is not there: no round. -/
theorem range_nil {N m b1 b2 : Nat} {g : Operand} {ps : Array Tmp} {assign body : Code} {Q : Exit → Act → World → Prop} {a : Act} {w : World}
    (hg : a.eval g = .func (.func 50) #[] #[pv b1, pv b2]) (h : w.cell? ⟨b1, 0, none⟩ = some (.pointer none)) (hb : b1 < w.heap.size)
    (hdone : ∀ W, Below w.heap.size w W → W.heap[w.heap.size]? = some (.deferred (some [])) → Q .normal { a with defers := { target := .collected w.heap.size, args := #[] } :: a.defers } W) :
    (Code.rangeFunc g ps assign body).wpIn Fence.wide N Tryd.prog Q a w := by
  refine wpIn_rangeFunc fun fn hfn => ?_
  let rec' : LoopState → Option Code → Loop := fun st pe => { state := st, pending := pe, fn, tmps := a.tmps, params := ps, assign, body, defers := w.heap.size }
  let W1 : World := (w.alloc (.deferred (some []))).alloc (.loop (rec' .ready none))
  have hs1 : W1.heap.size = w.heap.size + 2 := by simp [W1]
  have hL : W1.heap[w.heap.size + 1]? = some (.loop (rec' .ready none)) := by
    have := heap_alloc_new (w.alloc (.deferred (some []))) (.loop (rec' .ready none))
    rwa [World.size_alloc] at this
  have hD : W1.heap[w.heap.size]? = some (.deferred (some [])) := (heap_alloc_old _ _ (by simp)).trans (heap_alloc_new w _)
  have hb1 : Below w.heap.size w W1 := ((Below.refl _ w).alloc (Nat.le_refl _) _).alloc (by simp) _
  refine ⟨w.heap.size + 1, [{ target := .collected w.heap.size, args := #[] }], W1, { target := .fn (.func 50) #[pv b1, pv b2], args := #[.func (.yield (w.heap.size + 1)) #[] #[]] }, W1, 50,
    #[.func (.yield (w.heap.size + 1)) #[] #[], pv b1, pv b2], W1, run_enterLoop_outer _ _ _ _ _, ?_, fun _ _ => trivial, ?_, (fun h => by cases h), ?_⟩
  · simp only [resolve, hg]
    simp [go_sem]
  · simp [invoke, go_sem]
  · refine (callsIn_wide.2 (callsIn_wide.1 (iter_nil m (w.heap.size + 1) b1 b2 W1 ((hb1.cell (p := ⟨b1, 0, none⟩) hb).trans h)))).mono ?_
    rintro e W2 ⟨⟨v, rfl⟩, rfl⟩
    have h2 := putObj_grown W1 (w.heap.size + 1) (.loop { rec' .ready none with state := .exhausted })
    exact ⟨none, _, run_endLoop hL (by simp [rec']), hdone _ (hb1.grown h2 hb1.size (fun k hk => by injection hk with hk; omega)) ((h2.block _ (Array.getElem?_eq_some_iff.1 hD).1 (fun e => by injection e with e; omega)).trans hD)⟩

end Go.Proofs.YtiembenkdldklaaDoor
