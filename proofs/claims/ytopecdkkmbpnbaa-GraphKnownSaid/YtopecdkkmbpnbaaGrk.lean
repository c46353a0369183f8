/-
  A region that draws its order, in which boxes of the call's own are written: by what holds of each operation's value, and by an invariant of one's own over what is done. No program is named here.
-/
import Derived.Test.YtopecdkkmbpnbaaGrj
namespace Go.Proofs.Ytopecdkkmbpnbaa
open Go Go.RowKit
set_option linter.unusedVariables false

section
variable {P : Program} {ops : Array Oper} {Q : Exit → Act → World → Prop} {a0 : Act} {w0 : World}

/-- One more is done. -/
def more (L : Nat → Bool) (i : Nat) : Nat → Bool := fun k => if k = i then true else L k

/-- All operations are done, when none is ready; an edge that does not bind may point ahead. -/
theorem all_listedB (hback : ∀ (i : Nat) (o : Oper), ops[i]? = some o → ∀ e ∈ o.after, Region.binds .any e = true → e.on < i) {listed : Array Bool} (hs : listed.size = ops.size) (hr : Region.ready .any ops listed = []) : ∀ i, i < ops.size → listed.getD i false = true := by
  intro i
  induction i using Nat.strongRecOn with
  | ind i ih =>
    intro hi
    cases h : listed.getD i false with
    | true => rfl
    | false =>
      exfalso
      have hm : i ∈ Region.ready .any ops listed := by
        rw [mem_ready]
        refine ⟨?_, ops[i], Array.getElem?_eq_getElem hi, fun e he hb => ih e.on (hback i _ (Array.getElem?_eq_getElem hi) e he hb) ?_⟩
        · have hi' : i < listed.size := by omega
          rw [Array.getD_eq_getD_getElem?, Array.getElem?_eq_getElem hi'] at h ⊢
          exact h
        · have := hback i _ (Array.getElem?_eq_getElem hi) e he hb
          omega
      rw [hr] at hm
      cases hm
/-- The region's operations: each writes a slot of its own below N, and waits for earlier ones alone. -/
def regionOkB (ops : Array Oper) (N : Nat) : Bool :=
  decide (dsts ops).Nodup && (dsts ops).all (fun d => decide (d < N)) && (List.range ops.size).all fun i => ((ops[i]?).map fun o => o.after.all fun e => !Region.binds .any e || decide (e.on < i)).getD true
theorem regionOkB_back {N : Nat} (h : regionOkB ops N = true) (i : Nat) (o : Oper) (ho : ops[i]? = some o) : ∀ e ∈ o.after, Region.binds .any e = true → e.on < i := by
  simp only [regionOkB, Bool.and_eq_true] at h
  have hlt := (Array.getElem?_eq_some_iff.1 ho).1
  have := (List.all_eq_true.1 h.2) i (by rw [List.mem_range]; exact hlt)
  rw [ho] at this
  intro e he hb
  simp only [Option.map_some, Option.getD_some] at this
  have h2 := (Array.all_eq_true_iff_forall_mem.1 this) e he
  rw [hb] at h2
  simpa using h2

theorem wpAny_gen (I : (Nat → Bool) → Act → World → Prop) (hback : ∀ (i : Nat) (o : Oper), ops[i]? = some o → ∀ e ∈ o.after, Region.binds .any e = true → e.on < i)
    (hop : ∀ i o L a w, ops[i]? = some o → L i = false → I L a w → (∀ e ∈ o.after, Region.binds .any e = true → L e.on = true) →
      Region.wanted o (yielded ops a.tmps) = true ∧ o.wp P a w (fun a' w' => I (more L i) a' w') Q)
    (hend : ∀ L a w, I L a w → (∀ i, i < ops.size → L i = true) → Q .normal a w) :
    ∀ (fuel : Nat) (listed : Array Bool) (a : Act) (w : World), listed.size = ops.size → listed.toList.count false ≤ fuel → I (fun k => listed.getD k false) a w → wpAny P .any ops Q fuel listed a w := by
  intro fuel
  induction fuel with
  | zero =>
    intro listed a w hs hc hI
    have hall : ∀ i, i < ops.size → listed.getD i false = true := by
      intro i hi
      cases h : listed.getD i false with
      | true => rfl
      | false =>
        exfalso
        have hi' : i < listed.size := by omega
        rw [Array.getD_eq_getD_getElem?, Array.getElem?_eq_getElem hi'] at h
        have : false ∈ listed.toList := by
          rw [← h]; simp
        have := List.count_pos_iff.2 this
        omega
    refine ⟨?_, hend _ a w hI hall⟩
    apply List.eq_nil_iff_forall_not_mem.2
    intro j hj
    rw [mem_ready] at hj
    obtain ⟨h1, o, ho, _⟩ := hj
    have hlt := (Array.getElem?_eq_some_iff.1 ho).1
    have h2 := hall j hlt
    have hi' : j < listed.size := by omega
    rw [Array.getD_eq_getD_getElem?, Array.getElem?_eq_getElem hi'] at h1 h2
    simp at h1 h2
    rw [h1] at h2; cases h2
  | succ fuel ih =>
    intro listed a w hs hc hI
    refine ⟨fun hr => hend _ a w hI (all_listedB hback hs hr), fun i hi => ?_⟩
    rw [mem_ready] at hi
    obtain ⟨h1, o, ho, haf⟩ := hi
    have hlt' := (Array.getElem?_eq_some_iff.1 ho).1
    have hi' : i < listed.size := by omega
    have h1' : listed.getD i false = false := by
      rw [Array.getD_eq_getD_getElem?, Array.getElem?_eq_getElem hi'] at h1 ⊢
      exact h1
    obtain ⟨hw, hwp⟩ := hop i o (fun k => listed.getD k false) a w ho h1' hI fun e he hb => haf e he hb
    unfold wpOp
    rw [ho]
    simp only [hw, if_true]
    refine .inl (Oper.wp_mono ?_ hwp)
    intro a' w' hI'
    refine ih _ _ _ (by simpa using hs) ?_ ?_
    · have hf : listed.toList[i]'(by simpa using hi') = false := by
        rw [Array.getD_eq_getD_getElem?, Array.getElem?_eq_getElem hi'] at h1
        simpa using h1
      have : (listed.setIfInBounds i true).toList = listed.toList.set i true := by simp
      rw [this, List.count_set (by simpa using hi'), hf]
      have hpos : 0 < listed.toList.count false := List.count_pos_iff.2 (by rw [← hf]; exact List.getElem_mem _)
      have e1 : ((false == false) = true) := rfl
      have e2 : ¬ ((true == false) = true) := by decide
      rw [if_pos e1, if_neg e2]
      omega
    · have e : (fun k => (listed.setIfInBounds i true).getD k false) = more (fun k => listed.getD k false) i := by
        funext k
        unfold more
        rw [Array.getD_eq_getD_getElem?, Array.getElem?_setIfInBounds]
        by_cases hk : k = i
        · subst hk; simp [hi']
        · rw [if_neg (fun e => hk e.symm), if_neg hk]
          simp [Array.getD_eq_getD_getElem?]
      rw [e]
      exact hI'

/-- A REGION THAT DRAWS ITS ORDER, BY WHAT HOLDS WHILE SOME OF ITS OPERATIONS ARE DONE. -/
theorem wp_region_gen {id N : Nat} (I : (Nat → Bool) → Act → World → Prop) (hm : P.follows .mixedOrders = true) (hok : regionOkB ops N = true)
    (hst : I (fun _ => false) a0 { w0 with drawn := w0.drawn + 1 })
    (hop : ∀ i o L a w, ops[i]? = some o → L i = false → I L a w → (∀ j, (o.after.any fun e => e.on == j && Region.binds .any e) = true → L j = true) →
      Region.wanted o (yielded ops a.tmps) = true ∧ o.wp P a w (fun a' w' => I (more L i) a' w') Q)
    (hend : ∀ L a w, I L a w → (∀ i, i < ops.size → L i = true) → Q .normal a w) :
    (Code.region id ops true).wp P Q a0 w0 := by
  refine wp_region_any hm (wpAny_gen I (regionOkB_back hok) (fun i o L a w ho h1 hI hD => hop i o L a w ho h1 hI fun j hj => ?_) hend _ _ _ _ (by simp) ?_ ?_)
  · rw [← Array.any_toList, List.any_eq_true] at hj
    obtain ⟨e, he, hj⟩ := hj
    have he := Array.mem_toList_iff.1 he
    simp only [Bool.and_eq_true, beq_iff_eq] at hj
    rw [← hj.1]
    exact hD e he hj.2
  · simp
  · have e : (fun k => (Array.replicate ops.size false).getD k false) = fun _ => false := by
      funext k
      rw [Array.getD_eq_getD_getElem?, Array.getElem?_replicate]
      split <;> rfl
    rw [e]
    exact hst

/-- A REGION THAT DRAWS ITS ORDER: the first m operations by what holds of their values; the others write, by an invariant J over what is done; K: what a step leaves as it was. -/
theorem wp_region_midJ {id N : Nat} (m : Nat) (Pr : Nat → Value → World → Prop) (K : World → World → Prop) (J : (Nat → Bool) → Act → World → Prop) (hm : P.follows .mixedOrders = true) (hok : regionOkB ops N = true) (hN : a0.tmps.size = N)
    (hK : ∀ w w', Below w.heap.size w w' → K w w')
    (hst : ∀ i v w w', Below w0.heap.size w0 w → K w w' → Pr i v w → Pr i v w')
    (hJ0 : J (fun _ => false) a0 { w0 with drawn := w0.drawn + 1 })
    (hJ : ∀ i o L a v w w', i < m → ops[i]? = some o → Mid ops Pr a0 w0 a w → J L a w → Below w.heap.size w w' → J (more L i) (a.put o.dst v) w')
    (hop : ∀ i o a w, i < m → ops[i]? = some o → Mid ops Pr a0 w0 a w → (∀ j, (o.after.any fun e => e.on == j && Region.binds .any e) = true → Done ops Pr j a w) →
      Region.wanted o (yielded ops a.tmps) = true ∧ o.wp P a w (fun a' w' => ∃ v, a' = a.put o.dst v ∧ Pr i v w' ∧ Below w.heap.size w w') Q)
    (hsp : ∀ i o L a w, m ≤ i → ops[i]? = some o → L i = false → Mid ops Pr a0 w0 a w → J L a w → (∀ j, (o.after.any fun e => e.on == j && Region.binds .any e) = true → L j = true ∧ Done ops Pr j a w) →
      Region.wanted o (yielded ops a.tmps) = true ∧ o.wp P a w (fun a' w' => ∃ v, a' = a.put o.dst v ∧ Pr i v w' ∧ K w w' ∧ Below w0.heap.size w0 w' ∧ J (more L i) a' w') Q)
    (hend : ∀ L a w, Mid ops Pr a0 w0 a w → J L a w → (∀ i, i < ops.size → L i = true ∧ Done ops Pr i a w) → Q .normal a w) :
    (Code.region id ops true).wp P Q a0 w0 := by
  have hok' := hok
  simp only [regionOkB, Bool.and_eq_true, decide_eq_true_eq] at hok'
  have hnd := hok'.1.1
  have hlt : ∀ d ∈ dsts ops, d < a0.tmps.size := fun d hd => by rw [hN]; simpa using (List.all_eq_true.1 hok'.1.2) d hd
  refine wp_region_gen (fun L a w => Mid ops Pr a0 w0 a w ∧ J L a w ∧ ∀ i, L i = true → Done ops Pr i a w) hm hok ⟨⟨rfl, rfl, below_drew1i w0, fun _ _ => rfl⟩, hJ0, fun i h => by cases h⟩ ?_ ?_
  · rintro i o L a w ho hL ⟨hM, hj, hD⟩ haf
    have step : ∀ v w', K w w' → Below w0.heap.size w0 w' → Pr i v w' → Mid ops Pr a0 w0 (a.put o.dst v) w' ∧ ∀ j, more L i j = true → Done ops Pr j (a.put o.dst v) w' := by
      intro v w' hk hb hv
      refine ⟨⟨by rw [put_size]; exact hM.tmps, by rw [put_defers']; exact hM.defers, hb, fun s hsd => ?_⟩, fun j hjm => ?_⟩
      · rw [put_getD_ne (fun e => hsd (mem_dsts ho e))]
        exact hM.other s hsd
      · by_cases hji : j = i
        · subst hji
          intro o' d ho' hd
          obtain rfl : o' = o := Option.some.inj (ho'.symm.trans ho)
          rw [hd, put_getD_eq (by rw [hM.tmps]; exact hlt d (mem_dsts ho hd))]
          exact hv
        · have hj2 : L j = true := by
            unfold more at hjm
            rw [if_neg hji] at hjm
            exact hjm
          intro o' d ho' hd
          rw [put_getD_ne (fun e => hji (dst_inj hnd ho' ho hd e))]
          exact hst j _ w w' hM.below hk (hD j hj2 o' d ho' hd)
    rcases Nat.lt_or_ge i m with h | h
    · obtain ⟨h1, h2⟩ := hop i o a w h ho hM fun j hj => hD j (haf j hj)
      refine ⟨h1, Oper.wp_mono ?_ h2⟩
      rintro a' w' ⟨v, rfl, hv, hb⟩
      obtain ⟨s1, s2⟩ := step v w' (hK _ _ hb) (hM.below.trans (hb.mono hM.below.size)) hv
      exact ⟨s1, hJ i o L a v w w' h ho hM hj hb, s2⟩
    · obtain ⟨h1, h2⟩ := hsp i o L a w h ho hL hM hj fun j hj' => ⟨haf j hj', hD j (haf j hj')⟩
      refine ⟨h1, Oper.wp_mono ?_ h2⟩
      rintro a' w' ⟨v, rfl, hv, hk, hb, hj'⟩
      obtain ⟨s1, s2⟩ := step v w' hk hb hv
      exact ⟨s1, hj', s2⟩
  · rintro L a w ⟨hM, hj, hD⟩ hall
    exact hend L a w hM hj fun i hi => ⟨hall i hi, hD i (hall i hi)⟩

/-- Two boxes of the call's own (slots s1, s2; made by operations i1, i2; written by j1, j2). -/
def BoxJ (T : TypeId) (Z X Y : Array Value) (W0 s1 s2 i1 i2 j1 j2 : Nat) (L : Nat → Bool) (a : Act) (w : World) : Prop := ∃ g h : Nat,
  (L i1 = true → a.tmps.getD s1 undef = .pointer (some ⟨g, 0, none⟩) ∧ W0 ≤ g ∧ w.heap[g]? = some (.cells (if L j1 = true then X else Z) T (0, 0))) ∧
  (L i2 = true → a.tmps.getD s2 undef = .pointer (some ⟨h, 0, none⟩) ∧ W0 ≤ h ∧ w.heap[h]? = some (.cells (if L j2 = true then Y else Z) T (0, 0))) ∧
  (L i1 = true → L i2 = true → g ≠ h) ∧ (L j1 = true → L i1 = true) ∧ (L j2 = true → L i2 = true)
/-- Every block stays, but for boxes of the call's own. -/
def BoxK (T : TypeId) (n W0 : Nat) (w w' : World) : Prop := w.heap.size ≤ w'.heap.size ∧ ∀ k, k < w.heap.size → w'.heap[k]? = w.heap[k]? ∨ (W0 ≤ k ∧ ∃ cs : Array Value, cs.size = n ∧ w.heap[k]? = some (.cells cs T (0, 0)))
theorem BoxK.of {T : TypeId} {n W0 : Nat} {w w' : World} (h : Below w.heap.size w w') : BoxK T n W0 w w' := ⟨h.size, fun k hk => .inl (h.block k hk)⟩
theorem BoxK.keep {T : TypeId} {n W0 : Nat} {w w' : World} (h : BoxK T n W0 w w') {g : Nat} {o : Obj} (hg : w.heap[g]? = some o) (hn : ∀ cs : Array Value, o = .cells cs T (0, 0) → cs.size = n → False) : w'.heap[g]? = some o := by
  rcases h.2 g (Array.getElem?_eq_some_iff.1 hg).1 with e | ⟨_, cs, h1, h2⟩
  · exact e.trans hg
  · exact absurd h1 (fun h1 => hn cs (Option.some.inj (hg.symm.trans h2)) h1)
section
variable {T : TypeId} {Z X Y : Array Value} {W0 s1 s2 i1 i2 j1 j2 : Nat} {L : Nat → Bool} {a : Act} {w w' : World}
theorem BoxJ.start (w : World) (a : Act) : BoxJ T Z X Y W0 s1 s2 i1 i2 j1 j2 (fun _ => false) a w := ⟨0, 0, fun h => (by cases h), fun h => (by cases h), fun h => (by cases h), fun h => (by cases h), fun h => (by cases h)⟩
theorem BoxJ.step (hj : BoxJ T Z X Y W0 s1 s2 i1 i2 j1 j2 L a w) {i : Nat} {d : Option Tmp} {v : Value} (hb : Below w.heap.size w w') (e1 : d ≠ some s1) (e2 : d ≠ some s2) (n1 : i ≠ i1) (n2 : i ≠ i2) (n3 : i ≠ j1) (n4 : i ≠ j2) :
    BoxJ T Z X Y W0 s1 s2 i1 i2 j1 j2 (more L i) (a.put d v) w' := by
  obtain ⟨g, h, a1, a2, a3, a4, a5⟩ := hj
  have m1 : more L i i1 = L i1 := if_neg (fun e => n1 e.symm)
  have m2 : more L i i2 = L i2 := if_neg (fun e => n2 e.symm)
  have m3 : more L i j1 = L j1 := if_neg (fun e => n3 e.symm)
  have m4 : more L i j2 = L j2 := if_neg (fun e => n4 e.symm)
  unfold BoxJ
  rw [m1, m2, m3, m4, put_getD_ne e1, put_getD_ne e2]
  refine ⟨g, h, fun k => ?_, fun k => ?_, a3, a4, a5⟩
  · obtain ⟨b1, b2, b3⟩ := a1 k
    exact ⟨b1, b2, (hb.block g (Array.getElem?_eq_some_iff.1 b3).1).trans b3⟩
  · obtain ⟨b1, b2, b3⟩ := a2 k
    exact ⟨b1, b2, (hb.block h (Array.getElem?_eq_some_iff.1 b3).1).trans b3⟩
theorem BoxJ.make1 (hj : BoxJ T Z X Y W0 s1 s2 i1 i2 j1 j2 L a w) (hs : s1 < a.tmps.size) (h0 : L i1 = false) (n1 : i1 ≠ i2) (n3 : i1 ≠ j1) (n4 : i1 ≠ j2) (n5 : s1 ≠ s2) (hW : W0 ≤ w.heap.size) :
    BoxJ T Z X Y W0 s1 s2 i1 i2 j1 j2 (more L i1) (a.put (some s1) (.pointer (some ⟨w.heap.size, 0, none⟩))) (w.alloc (.cells Z T)) := by
  obtain ⟨g, h, a1, a2, a3, a4, a5⟩ := hj
  have hb := below_new w (.cells Z T)
  have m1 : more L i1 i1 = true := if_pos rfl
  have m2 : more L i1 i2 = L i2 := if_neg (fun e => n1 e.symm)
  have m3 : more L i1 j1 = L j1 := if_neg (fun e => n3 e.symm)
  have m4 : more L i1 j2 = L j2 := if_neg (fun e => n4 e.symm)
  have j0 : L j1 = false := by
    cases h : L j1 with
    | false => rfl
    | true => have := a4 h; rw [h0] at this; cases this
  unfold BoxJ
  rw [m1, m2, m3, m4, put_getD_eq hs, put_getD_ne (fun e => n5 (Option.some.inj e)), j0]
  refine ⟨w.heap.size, h, fun _ => ⟨rfl, hW, by rw [if_neg (by decide)]; exact heap_alloc_new w _⟩, fun k => ?_, fun _ k => ?_, fun h => (by cases h), a5⟩
  · obtain ⟨b1, b2, b3⟩ := a2 k
    exact ⟨b1, b2, (hb.block h (Array.getElem?_eq_some_iff.1 b3).1).trans b3⟩
  · have := (Array.getElem?_eq_some_iff.1 (a2 k).2.2).1
    omega
theorem BoxJ.flip (hj : BoxJ T Z X Y W0 s1 s2 i1 i2 j1 j2 L a w) : BoxJ T Z Y X W0 s2 s1 i2 i1 j2 j1 L a w := by
  obtain ⟨g, h, a1, a2, a3, a4, a5⟩ := hj
  exact ⟨h, g, a2, a1, fun x y e => a3 y x e.symm, a5, a4⟩
theorem BoxJ.make2 (hj : BoxJ T Z X Y W0 s1 s2 i1 i2 j1 j2 L a w) (hs : s2 < a.tmps.size) (h0 : L i2 = false) (n1 : i1 ≠ i2) (n3 : i2 ≠ j1) (n4 : i2 ≠ j2) (n5 : s1 ≠ s2) (hW : W0 ≤ w.heap.size) :
    BoxJ T Z X Y W0 s1 s2 i1 i2 j1 j2 (more L i2) (a.put (some s2) (.pointer (some ⟨w.heap.size, 0, none⟩))) (w.alloc (.cells Z T)) :=
  (hj.flip.make1 hs h0 (fun e => n1 e.symm) n4 n3 (fun e => n5 e.symm) hW).flip
/-- A box is written whole. -/
theorem BoxJ.write1 (hj : BoxJ T Z X Y W0 s1 s2 i1 i2 j1 j2 L a w) (h0 : L j1 = false) (k1 : L i1 = true) (n1 : j1 ≠ i1) (n2 : j1 ≠ i2) (n3 : j1 ≠ j2) (e1 : ∀ v, a.put none v = a)
    (hw : ∀ g, a.tmps.getD s1 undef = .pointer (some ⟨g, 0, none⟩) → w.heap[g]? = some (Obj.cells Z T (0, 0)) → w'.heap[g]? = some (Obj.cells X T (0, 0)) ∧ ∀ k, k ≠ g → w'.heap[k]? = w.heap[k]?) (v : Value) : BoxJ T Z X Y W0 s1 s2 i1 i2 j1 j2 (more L j1) (a.put none v) w' := by
  obtain ⟨g, h, a1, a2, a3, a4, a5⟩ := hj
  have m1 : more L j1 i1 = L i1 := if_neg (fun e => n1 e.symm)
  have m2 : more L j1 i2 = L i2 := if_neg (fun e => n2 e.symm)
  have m3 : more L j1 j1 = true := if_pos rfl
  have m4 : more L j1 j2 = L j2 := if_neg (fun e => n3 e.symm)
  obtain ⟨b1, b2, b3⟩ := a1 k1
  rw [h0, if_neg (by decide)] at b3
  obtain ⟨q1, q2⟩ := hw g b1 b3
  unfold BoxJ
  rw [m1, m2, m3, m4, e1]
  exact ⟨g, h, fun _ => ⟨b1, b2, by rw [if_pos rfl]; exact q1⟩, fun k => by obtain ⟨d1, d2, d3⟩ := a2 k; exact ⟨d1, d2, (q2 h (fun e => a3 k1 k e.symm)).trans d3⟩, a3, fun _ => k1, a5⟩
end
end

/-- A box of three, written whole. -/
theorem box3_write {w : World} {g : Nat} {T : TypeId} {z0 z1 z2 : Value} (x1 x2 x3 : Value) (hg : w.heap[g]? = some (.cells #[z0, z1, z2] T (0, 0))) :
    (((w.setCell ⟨g, 0, none⟩ x1).setCell ⟨g, 1, none⟩ x2).setCell ⟨g, 2, none⟩ x3).heap[g]? = some (.cells #[x1, x2, x3] T (0, 0)) ∧ (∀ k, k ≠ g → (((w.setCell ⟨g, 0, none⟩ x1).setCell ⟨g, 1, none⟩ x2).setCell ⟨g, 2, none⟩ x3).heap[k]? = w.heap[k]?) ∧ (((w.setCell ⟨g, 0, none⟩ x1).setCell ⟨g, 1, none⟩ x2).setCell ⟨g, 2, none⟩ x3).heap.size = w.heap.size ∧ ∀ (n : Nat) (w0 : World), Below n w0 w → n ≤ g → Below n w0 (((w.setCell ⟨g, 0, none⟩ x1).setCell ⟨g, 1, none⟩ x2).setCell ⟨g, 2, none⟩ x3) := by
  have z1' : (w.setCell ⟨g, 0, none⟩ x1).heap[g]? = some (.cells #[x1, z1, z2] T (0, 0)) := by rw [heap_setCell_same _ g 0 _ _ _ hg]; rfl
  have z2' : ((w.setCell ⟨g, 0, none⟩ x1).setCell ⟨g, 1, none⟩ x2).heap[g]? = some (.cells #[x1, x2, z2] T (0, 0)) := by rw [heap_setCell_same _ g 1 _ _ _ z1']; rfl
  refine ⟨by rw [heap_setCell_same _ g 2 _ _ _ z2']; rfl, fun p hp => (heap_setCell_other _ ⟨g, 2, none⟩ p _ hp).trans ((heap_setCell_other _ ⟨g, 1, none⟩ p _ hp).trans (heap_setCell_other _ ⟨g, 0, none⟩ p _ hp)), by simp, fun n w0 hb hn => ?_⟩
  exact ((hb.setCell (p := ⟨g, 0, none⟩) hn _).setCell (p := ⟨g, 1, none⟩) hn _).setCell (p := ⟨g, 2, none⟩) hn _

theorem yielded_bool {ops : Array Oper} {a : Act} {j : Nat} {o : Oper} {d : Tmp} {b : Bool} (ho : ops[j]? = some o) (hd : o.dst = some d) (h : a.tmps.getD d undef = .bool b) : yielded ops a.tmps j = some b := by
  unfold yielded
  rw [ho, Option.bind_some, hd, Option.bind_some]
  rw [Array.getD_eq_getD_getElem?] at h
  cases ht : a.tmps[d]? with
  | none => rw [ht] at h; cases h
  | some v => rw [ht] at h; simp only [Option.getD_some] at h; subst h; rfl
theorem yielded_undef {ops : Array Oper} {a : Act} {j : Nat} {o : Oper} {d : Tmp} (ho : ops[j]? = some o) (hd : o.dst = some d) (h : a.tmps.getD d undef = undef) : yielded ops a.tmps j = none := by
  unfold yielded
  rw [ho, Option.bind_some, hd, Option.bind_some]
  rw [Array.getD_eq_getD_getElem?] at h
  cases ht : a.tmps[d]? with
  | none => rfl
  | some v => rw [ht] at h; simp only [Option.getD_some] at h; subst h; rfl
theorem wanted_yes {ops : Array Oper} {a : Act} {o o' : Oper} (j : Nat) (d : Tmp) {b : Bool} (hg : o.guard = some (j, b)) (ho : ops[j]? = some o') (hd : o'.dst = some d) (h : a.tmps.getD d undef = .bool b) : Region.wanted o (yielded ops a.tmps) = true := by
  unfold Region.wanted
  rw [hg]
  simp only
  rw [yielded_bool ho hd h]
  simp
theorem wanted_no {ops : Array Oper} {a : Act} {o o' : Oper} (j : Nat) (d : Tmp) {b b' : Bool} (hg : o.guard = some (j, b)) (ho : ops[j]? = some o') (hd : o'.dst = some d) (h : a.tmps.getD d undef = .bool b') (hne : b' ≠ b) : Region.wanted o (yielded ops a.tmps) = false := by
  unfold Region.wanted
  rw [hg]
  simp only
  rw [yielded_bool ho hd h]
  simpa using hne
theorem wanted_none {ops : Array Oper} {a : Act} {o o' : Oper} (j : Nat) (d : Tmp) {b : Bool} (hg : o.guard = some (j, b)) (ho : ops[j]? = some o') (hd : o'.dst = some d) (h : a.tmps.getD d undef = undef) : Region.wanted o (yielded ops a.tmps) = false := by
  unfold Region.wanted
  rw [hg]
  simp only
  rw [yielded_undef ho hd h]
  rfl

end Go.Proofs.Ytopecdkkmbpnbaa
