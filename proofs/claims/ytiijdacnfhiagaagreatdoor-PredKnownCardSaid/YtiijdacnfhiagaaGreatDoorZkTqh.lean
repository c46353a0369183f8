/-
  A region that draws its order, by what holds of each operation's value: shown once for each operation, from any state in which the operations that it waits for are done; so it holds for every order. No program is named here.
  A region that draws its order, by what holds while some of its operations are done: shown once for each operation. No program is named here.
  Layer 4: two trees told to the document, and put into boxes, in any order: what holds on the way.
-/
import Derived.Test.YtiijdacnfhiagaaGreatDoorMem
import Derived.Orders
import Derived.Test.YtiijdacnfhiagaaGreatDoorTex

namespace Go.Proofs.YtiijdacnfhiagaaGreatDoor
open Go Go.RowKit
set_option linter.unusedVariables false

section
variable {P : Program} {ops : Array Oper} {Q : Exit → Act → World → Prop} {Pr : Nat → Value → World → Prop} {a0 : Act} {w0 : World}

/-- The slots that a region's operations write. -/
def dsts (ops : Array Oper) : List Tmp := ops.toList.filterMap (·.dst)

/-- In the middle of a region. -/
structure Mid (ops : Array Oper) (Pr : Nat → Value → World → Prop) (a0 : Act) (w0 : World) (a : Act) (w : World) : Prop where
  tmps : a.tmps.size = a0.tmps.size
  defers : a.defers = a0.defers
  below : Below w0.heap.size w0 w
  other : ∀ s, s ∉ dsts ops → a.tmps.getD s undef = a0.tmps.getD s undef

def Done (ops : Array Oper) (Pr : Nat → Value → World → Prop) (i : Nat) (a : Act) (w : World) : Prop := ∀ o d, ops[i]? = some o → o.dst = some d → Pr i (a.tmps.getD d undef) w

theorem mem_dsts {i : Nat} {o : Oper} {d : Tmp} (h : ops[i]? = some o) (hd : o.dst = some d) : d ∈ dsts ops := by
  unfold dsts
  rw [List.mem_filterMap]
  refine ⟨o, ?_, hd⟩
  have : ops.toList[i]? = some o := by simpa using h
  exact List.mem_of_getElem? this
theorem dst_inj (hnd : (dsts ops).Nodup) {i j : Nat} {o o' : Oper} {d : Tmp} (h : ops[i]? = some o) (h' : ops[j]? = some o') (hd : o.dst = some d) (hd' : o'.dst = some d) : i = j := by
  obtain ⟨l⟩ := ops
  simp only [List.getElem?_toArray] at h h'
  unfold dsts at hnd
  simp only at hnd
  induction l generalizing i j with
  | nil => simp at h
  | cons x l ih =>
    cases hx : x.dst with
    | none =>
      rw [List.filterMap_cons_none hx] at hnd
      cases i with
      | zero => simp at h; subst h; rw [hx] at hd; cases hd
      | succ i =>
        cases j with
        | zero => simp at h'; subst h'; rw [hx] at hd'; cases hd'
        | succ j => rw [ih (i := i) (j := j) hnd (by simpa using h) (by simpa using h')]
    | some e =>
      rw [List.filterMap_cons_some hx, List.nodup_cons] at hnd
      cases i with
      | zero =>
        simp at h
        subst h
        rw [hx] at hd
        cases j with
        | zero => rfl
        | succ j =>
          exfalso
          injection hd with hd
          subst hd
          exact hnd.1 (List.mem_filterMap.2 ⟨o', List.mem_of_getElem? (by simpa using h'), hd'⟩)
      | succ i =>
        cases j with
        | zero =>
          exfalso
          simp at h'
          subst h'
          rw [hx] at hd'
          injection hd' with hd'
          subst hd'
          exact hnd.1 (List.mem_filterMap.2 ⟨o, List.mem_of_getElem? (by simpa using h), hd⟩)
        | succ j => rw [ih (i := i) (j := j) hnd.2 (by simpa using h) (by simpa using h')]

theorem put_getD_ne {a : Act} {dst : Option Tmp} {v : Value} {s : Tmp} (h : dst ≠ some s) : (a.put dst v).tmps.getD s undef = a.tmps.getD s undef := by
  cases dst with
  | none => rfl
  | some d =>
    have : d ≠ s := fun e => h (by rw [e])
    simp [Act.put, Array.getD_eq_getD_getElem?, this]
theorem put_getD_eq {a : Act} {v : Value} {d : Tmp} (h : d < a.tmps.size) : (a.put (some d) v).tmps.getD d undef = v := by
  simp [Act.put, Array.getD_eq_getD_getElem?, h]
theorem put_size {a : Act} {dst : Option Tmp} {v : Value} : (a.put dst v).tmps.size = a.tmps.size := by cases dst <;> simp [Act.put]
theorem put_defers' {a : Act} {dst : Option Tmp} {v : Value} : (a.put dst v).defers = a.defers := by cases dst <;> simp [Act.put]

/-- All operations are done, when none is ready. -/
theorem all_listed (hback : ∀ (i : Nat) (o : Oper), ops[i]? = some o → ∀ e ∈ o.after, e.on < i) {listed : Array Bool} (hs : listed.size = ops.size) (hr : Region.ready .any ops listed = []) : ∀ i, i < ops.size → listed.getD i false = true := by
  intro i
  induction i using Nat.strongRecOn with
  | ind i ih =>
    intro hi
    cases h : listed.getD i false with
    | true => rfl
    | false =>
      exfalso
      have hm : i ∈ Region.ready .any ops listed := by
        rw [mem_ready]
        refine ⟨?_, ops[i], Array.getElem?_eq_getElem hi, fun e he _ => ih e.on (hback i _ (Array.getElem?_eq_getElem hi) e he) ?_⟩
        · have hi' : i < listed.size := by omega
          rw [Array.getD_eq_getD_getElem?, Array.getElem?_eq_getElem hi'] at h ⊢
          exact h
        · have := hback i _ (Array.getElem?_eq_getElem hi) e he
          omega
      rw [hr] at hm
      cases hm

theorem wpAny_mid (hnd : (dsts ops).Nodup) (hlt : ∀ d ∈ dsts ops, d < a0.tmps.size) (hback : ∀ (i : Nat) (o : Oper), ops[i]? = some o → ∀ e ∈ o.after, e.on < i)
    (hst : ∀ i v w w', Below w0.heap.size w0 w → Below w.heap.size w w' → Pr i v w → Pr i v w')
    (hop : ∀ i o a w, ops[i]? = some o → Mid ops Pr a0 w0 a w → (∀ e ∈ o.after, Region.binds .any e = true → Done ops Pr e.on a w) →
      Region.wanted o (yielded ops a.tmps) = true ∧ o.wp P a w (fun a' w' => ∃ v, a' = a.put o.dst v ∧ Pr i v w' ∧ Below w.heap.size w w') Q)
    (hend : ∀ a w, Mid ops Pr a0 w0 a w → (∀ i, i < ops.size → Done ops Pr i a w) → Q .normal a w) :
    ∀ (fuel : Nat) (listed : Array Bool) (a : Act) (w : World), listed.size = ops.size → listed.toList.count false ≤ fuel → Mid ops Pr a0 w0 a w → (∀ i, listed.getD i false = true → Done ops Pr i a w) → wpAny P .any ops Q fuel listed a w := by
  intro fuel
  induction fuel with
  | zero =>
    intro listed a w hs hc hM hD
    have hall : ∀ i, i < ops.size → listed.getD i false = true := by
      intro i hi
      cases h : listed.getD i false with
      | true => rfl
      | false =>
        exfalso
        have hi' : i < listed.size := by omega
        rw [Array.getD_eq_getD_getElem?, Array.getElem?_eq_getElem hi'] at h
        have : false ∈ listed.toList := by
          rw [← h]; simp
        have := List.count_pos_iff.2 this
        omega
    refine ⟨?_, hend a w hM fun i hi => hD i (hall i hi)⟩
    apply List.eq_nil_iff_forall_not_mem.2
    intro j hj
    rw [mem_ready] at hj
    obtain ⟨h1, o, ho, _⟩ := hj
    have hlt := (Array.getElem?_eq_some_iff.1 ho).1
    have h2 := hall j hlt
    have hi' : j < listed.size := by omega
    rw [Array.getD_eq_getD_getElem?, Array.getElem?_eq_getElem hi'] at h1 h2
    simp at h1 h2
    rw [h1] at h2; cases h2
  | succ fuel ih =>
    intro listed a w hs hc hM hD
    refine ⟨fun hr => hend a w hM fun i hi => hD i (all_listed hback hs hr i hi), fun i hi => ?_⟩
    rw [mem_ready] at hi
    obtain ⟨h1, o, ho, haf⟩ := hi
    have hlt' := (Array.getElem?_eq_some_iff.1 ho).1
    have hi' : i < listed.size := by omega
    obtain ⟨hw, hwp⟩ := hop i o a w ho hM fun e he hb => hD e.on (haf e he hb)
    unfold wpOp
    rw [ho]
    simp only [hw, if_true]
    refine .inl (Oper.wp_mono ?_ hwp)
    rintro a' w' ⟨v, rfl, hv, hbl⟩
    have hbl0 : Below w0.heap.size w0 w' := hM.below.trans (hbl.mono hM.below.size)
    refine ih _ _ _ (by simpa using hs) ?_ ⟨?_, ?_, hbl0, ?_⟩ ?_
    · have hf : listed.toList[i]'(by simpa using hi') = false := by
        rw [Array.getD_eq_getD_getElem?, Array.getElem?_eq_getElem hi'] at h1
        simpa using h1
      have : (listed.setIfInBounds i true).toList = listed.toList.set i true := by simp
      rw [this, List.count_set (by simpa using hi'), hf]
      have hpos : 0 < listed.toList.count false := List.count_pos_iff.2 (by rw [← hf]; exact List.getElem_mem _)
      have e1 : ((false == false) = true) := rfl
      have e2 : ¬ ((true == false) = true) := by decide
      rw [if_pos e1, if_neg e2]
      omega
    · rw [put_size]; exact hM.tmps
    · rw [put_defers']; exact hM.defers
    · intro s hsd
      rw [put_getD_ne (fun e => hsd (mem_dsts ho e))]
      exact hM.other s hsd
    · intro j hj
      by_cases hji : j = i
      · subst hji
        intro o' d ho' hd
        obtain rfl : o' = o := Option.some.inj (ho'.symm.trans ho)
        rw [hd, put_getD_eq (by rw [hM.tmps]; exact hlt d (mem_dsts ho hd))]
        exact hv
      · have hj2 : listed.getD j false = true := by
          rw [Array.getD_eq_getD_getElem?, Array.getElem?_setIfInBounds] at hj
          have : ¬ i = j := fun e => hji e.symm
          simp only [this, if_false] at hj
          rw [Array.getD_eq_getD_getElem?]
          exact hj
        intro o' d ho' hd
        rw [put_getD_ne (fun e => hji (dst_inj hnd ho' ho hd e))]
        exact hst j _ w w' hM.below hbl (hD j hj2 o' d ho' hd)

/-- The region's operations: each writes a slot of its own below N, and waits for earlier ones alone. -/
def regionOk (ops : Array Oper) (N : Nat) : Bool :=
  decide (dsts ops).Nodup && (dsts ops).all (fun d => decide (d < N)) && (List.range ops.size).all fun i => ((ops[i]?).map fun o => o.after.all fun e => decide (e.on < i)).getD true
theorem regionOk_back {N : Nat} (h : regionOk ops N = true) (i : Nat) (o : Oper) (ho : ops[i]? = some o) : ∀ e ∈ o.after, e.on < i := by
  simp only [regionOk, Bool.and_eq_true] at h
  have hlt := (Array.getElem?_eq_some_iff.1 ho).1
  have := (List.all_eq_true.1 h.2) i (by rw [List.mem_range]; exact hlt)
  rw [ho] at this
  intro e he
  simp only [Option.map_some, Option.getD_some] at this
  have h2 := (Array.all_eq_true_iff_forall_mem.1 this) e he
  simpa using h2

/-- An operation that ends with the value v, in the world w'. -/
theorem mid_step {o : Oper} {a : Act} {w : World} {K0 : Act → World → Prop} (v : Value) (w' : World) (h : ∀ K : Act → World → Prop, K (a.put o.dst v) w' → o.wp P a w K Q) (hK : K0 (a.put o.dst v) w') : o.wp P a w K0 Q := h K0 hK

/-- An operation that ends with some value, in some world, of which R holds. -/
theorem mid_call {o : Oper} {a : Act} {w : World} {K0 : Act → World → Prop} (R : Value → World → Prop) (h : ∀ K : Act → World → Prop, (∀ v w', R v w' → K (a.put o.dst v) w') → o.wp P a w K Q) (hK : ∀ v w', R v w' → K0 (a.put o.dst v) w') : o.wp P a w K0 Q := h K0 hK

theorem below_drew1 (w : World) : Below w.heap.size w { w with drawn := w.drawn + 1 } := ⟨rfl, rfl, rfl, Nat.le_refl _, fun _ _ => rfl⟩

/-- A REGION THAT DRAWS ITS ORDER, BY WHAT HOLDS OF EACH OPERATION'S VALUE. -/
theorem wp_region_mid {id N : Nat} (Pr : Nat → Value → World → Prop) (hm : P.follows .mixedOrders = true) (hok : regionOk ops N = true) (hN : a0.tmps.size = N)
    (hst : ∀ i v w w', Below w0.heap.size w0 w → Below w.heap.size w w' → Pr i v w → Pr i v w')
    (hop : ∀ i o a w, ops[i]? = some o → Mid ops Pr a0 w0 a w → (∀ j, (o.after.any fun e => e.on == j && Region.binds .any e) = true → Done ops Pr j a w) →
      Region.wanted o (yielded ops a.tmps) = true ∧ o.wp P a w (fun a' w' => ∃ v, a' = a.put o.dst v ∧ Pr i v w' ∧ Below w.heap.size w w') Q)
    (hend : ∀ a w, Mid ops Pr a0 w0 a w → (∀ i, i < ops.size → Done ops Pr i a w) → Q .normal a w) :
    (Code.region id ops true).wp P Q a0 w0 := by
  have hok' := hok
  simp only [regionOk, Bool.and_eq_true, decide_eq_true_eq] at hok'
  refine wp_region_any hm (wpAny_mid hok'.1.1 (fun d hd => by rw [hN]; simpa using (List.all_eq_true.1 hok'.1.2) d hd) (regionOk_back hok) hst (fun i o a w ho hM hD => hop i o a w ho hM fun j hj => ?_) hend _ _ _ _ (by simp) ?_ ⟨rfl, rfl, below_drew1 w0, fun _ _ => rfl⟩ ?_)
  · rw [← Array.any_toList, List.any_eq_true] at hj
    obtain ⟨e, he, hj⟩ := hj
    have he := Array.mem_toList_iff.1 he
    simp only [Bool.and_eq_true, beq_iff_eq] at hj
    rw [← hj.1]
    exact hD e he hj.2
  · simp
  · intro i hi
    exfalso
    rw [Array.getD_eq_getD_getElem?, Array.getElem?_replicate] at hi
    split at hi <;> simp at hi
end

end Go.Proofs.YtiijdacnfhiagaaGreatDoor

namespace Go.Proofs.YtiijdacnfhiagaaGreatDoor
open Go Go.RowKit
set_option linter.unusedVariables false

section
variable {P : Program} {ops : Array Oper} {Q : Exit → Act → World → Prop} {a0 : Act} {w0 : World}

/-- One more is done. -/
def more (L : Nat → Bool) (i : Nat) : Nat → Bool := fun k => if k = i then true else L k

theorem wpAny_gen (I : (Nat → Bool) → Act → World → Prop) (hback : ∀ (i : Nat) (o : Oper), ops[i]? = some o → ∀ e ∈ o.after, e.on < i)
    (hop : ∀ i o L a w, ops[i]? = some o → L i = false → I L a w → (∀ e ∈ o.after, Region.binds .any e = true → L e.on = true) →
      Region.wanted o (yielded ops a.tmps) = true ∧ o.wp P a w (fun a' w' => I (more L i) a' w') Q)
    (hend : ∀ L a w, I L a w → (∀ i, i < ops.size → L i = true) → Q .normal a w) :
    ∀ (fuel : Nat) (listed : Array Bool) (a : Act) (w : World), listed.size = ops.size → listed.toList.count false ≤ fuel → I (fun k => listed.getD k false) a w → wpAny P .any ops Q fuel listed a w := by
  intro fuel
  induction fuel with
  | zero =>
    intro listed a w hs hc hI
    have hall : ∀ i, i < ops.size → listed.getD i false = true := by
      intro i hi
      cases h : listed.getD i false with
      | true => rfl
      | false =>
        exfalso
        have hi' : i < listed.size := by omega
        rw [Array.getD_eq_getD_getElem?, Array.getElem?_eq_getElem hi'] at h
        have : false ∈ listed.toList := by
          rw [← h]; simp
        have := List.count_pos_iff.2 this
        omega
    refine ⟨?_, hend _ a w hI hall⟩
    apply List.eq_nil_iff_forall_not_mem.2
    intro j hj
    rw [mem_ready] at hj
    obtain ⟨h1, o, ho, _⟩ := hj
    have hlt := (Array.getElem?_eq_some_iff.1 ho).1
    have h2 := hall j hlt
    have hi' : j < listed.size := by omega
    rw [Array.getD_eq_getD_getElem?, Array.getElem?_eq_getElem hi'] at h1 h2
    simp at h1 h2
    rw [h1] at h2; cases h2
  | succ fuel ih =>
    intro listed a w hs hc hI
    refine ⟨fun hr => hend _ a w hI (all_listed hback hs hr), fun i hi => ?_⟩
    rw [mem_ready] at hi
    obtain ⟨h1, o, ho, haf⟩ := hi
    have hlt' := (Array.getElem?_eq_some_iff.1 ho).1
    have hi' : i < listed.size := by omega
    have h1' : listed.getD i false = false := by
      rw [Array.getD_eq_getD_getElem?, Array.getElem?_eq_getElem hi'] at h1 ⊢
      exact h1
    obtain ⟨hw, hwp⟩ := hop i o (fun k => listed.getD k false) a w ho h1' hI fun e he hb => haf e he hb
    unfold wpOp
    rw [ho]
    simp only [hw, if_true]
    refine .inl (Oper.wp_mono ?_ hwp)
    intro a' w' hI'
    refine ih _ _ _ (by simpa using hs) ?_ ?_
    · have hf : listed.toList[i]'(by simpa using hi') = false := by
        rw [Array.getD_eq_getD_getElem?, Array.getElem?_eq_getElem hi'] at h1
        simpa using h1
      have : (listed.setIfInBounds i true).toList = listed.toList.set i true := by simp
      rw [this, List.count_set (by simpa using hi'), hf]
      have hpos : 0 < listed.toList.count false := List.count_pos_iff.2 (by rw [← hf]; exact List.getElem_mem _)
      have e1 : ((false == false) = true) := rfl
      have e2 : ¬ ((true == false) = true) := by decide
      rw [if_pos e1, if_neg e2]
      omega
    · have e : (fun k => (listed.setIfInBounds i true).getD k false) = more (fun k => listed.getD k false) i := by
        funext k
        unfold more
        rw [Array.getD_eq_getD_getElem?, Array.getElem?_setIfInBounds]
        by_cases hk : k = i
        · subst hk; simp [hi']
        · rw [if_neg (fun e => hk e.symm), if_neg hk]
          simp [Array.getD_eq_getD_getElem?]
      rw [e]
      exact hI'

/-- A REGION THAT DRAWS ITS ORDER, BY WHAT HOLDS WHILE SOME OF ITS OPERATIONS ARE DONE. -/
theorem wp_region_gen {id N : Nat} (I : (Nat → Bool) → Act → World → Prop) (hm : P.follows .mixedOrders = true) (hok : regionOk ops N = true)
    (hst : I (fun _ => false) a0 { w0 with drawn := w0.drawn + 1 })
    (hop : ∀ i o L a w, ops[i]? = some o → L i = false → I L a w → (∀ j, (o.after.any fun e => e.on == j && Region.binds .any e) = true → L j = true) →
      Region.wanted o (yielded ops a.tmps) = true ∧ o.wp P a w (fun a' w' => I (more L i) a' w') Q)
    (hend : ∀ L a w, I L a w → (∀ i, i < ops.size → L i = true) → Q .normal a w) :
    (Code.region id ops true).wp P Q a0 w0 := by
  refine wp_region_any hm (wpAny_gen I (regionOk_back hok) (fun i o L a w ho h1 hI hD => hop i o L a w ho h1 hI fun j hj => ?_) hend _ _ _ _ (by simp) ?_ ?_)
  · rw [← Array.any_toList, List.any_eq_true] at hj
    obtain ⟨e, he, hj⟩ := hj
    have he := Array.mem_toList_iff.1 he
    simp only [Bool.and_eq_true, beq_iff_eq] at hj
    rw [← hj.1]
    exact hD e he hj.2
  · simp
  · have e : (fun k => (Array.replicate ops.size false).getD k false) = fun _ => false := by
      funext k
      rw [Array.getD_eq_getD_getElem?, Array.getElem?_replicate]
      split <;> rfl
    rw [e]
    exact hst
/-- The same, told of the frame that the region begins with. -/
theorem wp_region_gen2 {id N : Nat} (I : Act → (Nat → Bool) → Act → World → Prop) (hm : P.follows .mixedOrders = true) (hok : regionOk ops N = true)
    (hst : I a0 (fun _ => false) a0 { w0 with drawn := w0.drawn + 1 })
    (hop : ∀ i o L a w, ops[i]? = some o → L i = false → I a0 L a w → (∀ j, (o.after.any fun e => e.on == j && Region.binds .any e) = true → L j = true) →
      Region.wanted o (yielded ops a.tmps) = true ∧ o.wp P a w (fun a' w' => I a0 (more L i) a' w') Q)
    (hend : ∀ L a w, I a0 L a w → (∀ i, i < ops.size → L i = true) → Q .normal a w) :
    (Code.region id ops true).wp P Q a0 w0 := wp_region_gen (I a0) hm hok hst hop hend
theorem wpAny_gen3 (I : (Nat → Bool) → Act → World → Prop) (hback : ∀ (i : Nat) (o : Oper), ops[i]? = some o → ∀ e ∈ o.after, e.on < i)
    (hop : ∀ i o L a w, ops[i]? = some o → L i = false → I L a w → (∀ e ∈ o.after, Region.binds .any e = true → L e.on = true) →
      (Region.wanted o (yielded ops a.tmps) = true ∧ o.wp P a w (fun a' w' => I (more L i) a' w') Q) ∨ (Region.wanted o (yielded ops a.tmps) = false ∧ I (more L i) (a.put o.dst undef) w))
    (hend : ∀ L a w, I L a w → (∀ i, i < ops.size → L i = true) → Q .normal a w) :
    ∀ (fuel : Nat) (listed : Array Bool) (a : Act) (w : World), listed.size = ops.size → listed.toList.count false ≤ fuel → I (fun k => listed.getD k false) a w → wpAny P .any ops Q fuel listed a w := by
  intro fuel
  induction fuel with
  | zero =>
    intro listed a w hs hc hI
    have hall : ∀ i, i < ops.size → listed.getD i false = true := by
      intro i hi
      cases h : listed.getD i false with
      | true => rfl
      | false =>
        exfalso
        have hi' : i < listed.size := by omega
        rw [Array.getD_eq_getD_getElem?, Array.getElem?_eq_getElem hi'] at h
        have : false ∈ listed.toList := by
          rw [← h]; simp
        have := List.count_pos_iff.2 this
        omega
    refine ⟨?_, hend _ a w hI hall⟩
    apply List.eq_nil_iff_forall_not_mem.2
    intro j hj
    rw [mem_ready] at hj
    obtain ⟨h1, o, ho, _⟩ := hj
    have hlt := (Array.getElem?_eq_some_iff.1 ho).1
    have h2 := hall j hlt
    have hi' : j < listed.size := by omega
    rw [Array.getD_eq_getD_getElem?, Array.getElem?_eq_getElem hi'] at h1 h2
    simp at h1 h2
    rw [h1] at h2; cases h2
  | succ fuel ih =>
    intro listed a w hs hc hI
    refine ⟨fun hr => hend _ a w hI (all_listed hback hs hr), fun i hi => ?_⟩
    rw [mem_ready] at hi
    obtain ⟨h1, o, ho, haf⟩ := hi
    have hlt' := (Array.getElem?_eq_some_iff.1 ho).1
    have hi' : i < listed.size := by omega
    have h1' : listed.getD i false = false := by
      rw [Array.getD_eq_getD_getElem?, Array.getElem?_eq_getElem hi'] at h1 ⊢
      exact h1
    have hnext : ∀ a' w', I (more (fun k => listed.getD k false) i) a' w' → wpAny P .any ops Q fuel (listed.setIfInBounds i true) a' w' := by
      intro a' w' hI'
      refine ih _ _ _ (by simpa using hs) ?_ ?_
      · have hf : listed.toList[i]'(by simpa using hi') = false := by
          rw [Array.getD_eq_getD_getElem?, Array.getElem?_eq_getElem hi'] at h1
          simpa using h1
        have : (listed.setIfInBounds i true).toList = listed.toList.set i true := by simp
        rw [this, List.count_set (by simpa using hi'), hf]
        have hpos : 0 < listed.toList.count false := List.count_pos_iff.2 (by rw [← hf]; exact List.getElem_mem _)
        have e1 : ((false == false) = true) := rfl
        have e2 : ¬ ((true == false) = true) := by decide
        rw [if_pos e1, if_neg e2]
        omega
      · have e : (fun k => (listed.setIfInBounds i true).getD k false) = more (fun k => listed.getD k false) i := by
          funext k
          unfold more
          rw [Array.getD_eq_getD_getElem?, Array.getElem?_setIfInBounds]
          by_cases hk : k = i
          · subst hk; simp [hi']
          · rw [if_neg (fun e => hk e.symm), if_neg hk]
            simp [Array.getD_eq_getD_getElem?]
        rw [e]
        exact hI'
    unfold wpOp
    rw [ho]
    rcases hop i o (fun k => listed.getD k false) a w ho h1' hI fun e he hb => haf e he hb with ⟨hw, hwp⟩ | ⟨hw, hI'⟩
    · simp only [hw, if_true]
      exact .inl (Oper.wp_mono hnext hwp)
    · simp only [hw]
      exact hnext _ _ hI'

/-- What an operation's slot holds, when it is done. -/
def Fixed (ops : Array Oper) (V : Nat → Value) (k : Nat) (a : Act) : Prop := ∀ o d, ops[k]? = some o → o.dst = some d → a.tmps.getD d undef = V k

/-- A REGION THAT DRAWS ITS ORDER, WHOSE OPERATIONS EACH HAVE ONE VALUE, WHATEVER THE ORDER; one that is not wanted has none. -/
theorem wp_region_fix {id N : Nat} (V : Nat → Value) (hm : P.follows .mixedOrders = true) (hok : regionOk ops N = true) (hN : a0.tmps.size = N)
    (hop : ∀ i o a w, ops[i]? = some o → Below w0.heap.size w0 w → (∀ s, s ∉ dsts ops → a.tmps.getD s undef = a0.tmps.getD s undef) → (∀ k, (o.after.any fun e => e.on == k && Region.binds .any e) = true → Fixed ops V k a) →
      (Region.wanted o (yielded ops a.tmps) = true ∧ o.wp P a w (fun a' w' => a' = a.put o.dst (V i) ∧ Below w.heap.size w w') Q) ∨ (Region.wanted o (yielded ops a.tmps) = false ∧ V i = undef))
    (hend : ∀ a w, a.tmps.size = a0.tmps.size → a.defers = a0.defers → (∀ s, s ∉ dsts ops → a.tmps.getD s undef = a0.tmps.getD s undef) → Below w0.heap.size w0 w → (∀ k, k < ops.size → Fixed ops V k a) → Q .normal a w) :
    (Code.region id ops true).wp P Q a0 w0 := by
  have hok' := hok
  simp only [regionOk, Bool.and_eq_true, decide_eq_true_eq] at hok'
  have hput : ∀ (i : Nat) (o : Oper) (L : Nat → Bool) (a : Act) (w w' : World), ops[i]? = some o → (a.tmps.size = a0.tmps.size ∧ a.defers = a0.defers ∧ (∀ s, s ∉ dsts ops → a.tmps.getD s undef = a0.tmps.getD s undef) ∧ Below w0.heap.size w0 w ∧ ∀ k, L k = true → Fixed ops V k a) → Below w.heap.size w w' →
      ((a.put o.dst (V i)).tmps.size = a0.tmps.size ∧ (a.put o.dst (V i)).defers = a0.defers ∧ (∀ s, s ∉ dsts ops → (a.put o.dst (V i)).tmps.getD s undef = a0.tmps.getD s undef) ∧ Below w0.heap.size w0 w' ∧ ∀ k, more L i k = true → Fixed ops V k (a.put o.dst (V i))) := by
    intro i o L a w w' ho ⟨h1, h2, h3, h4, h5⟩ hb
    refine ⟨put_size.trans h1, put_defers'.trans h2, fun s hs => (put_getD_ne (fun e => hs (mem_dsts ho e))).trans (h3 s hs), h4.trans (hb.mono h4.size), fun k hk o' d ho' hd => ?_⟩
    by_cases hki : k = i
    · subst hki
      obtain rfl : o' = o := Option.some.inj (ho'.symm.trans ho)
      rw [hd, put_getD_eq (by rw [h1, hN]; simpa using (List.all_eq_true.1 hok'.1.2) d (mem_dsts ho hd))]
    · have hk' : L k = true := by unfold more at hk; rwa [if_neg hki] at hk
      rw [put_getD_ne (fun e => hki (dst_inj hok'.1.1 ho' ho hd e))]
      exact h5 k hk' o' d ho' hd
  refine wp_region_any hm (wpAny_gen3 (fun L a w => a.tmps.size = a0.tmps.size ∧ a.defers = a0.defers ∧ (∀ s, s ∉ dsts ops → a.tmps.getD s undef = a0.tmps.getD s undef) ∧ Below w0.heap.size w0 w ∧ ∀ k, L k = true → Fixed ops V k a) (regionOk_back hok) (fun i o L a w ho h1 hI hD => ?_) (fun L a w hI hall => hend a w hI.1 hI.2.1 hI.2.2.1 hI.2.2.2.1 fun k hk => hI.2.2.2.2 k (hall k hk)) _ _ _ _ (by simp) ?_ ?_)
  · have hD' : ∀ k, (o.after.any fun e => e.on == k && Region.binds .any e) = true → Fixed ops V k a := fun k hj => by
      rw [← Array.any_toList, List.any_eq_true] at hj
      obtain ⟨e, he, hj⟩ := hj
      have he := Array.mem_toList_iff.1 he
      simp only [Bool.and_eq_true, beq_iff_eq] at hj
      rw [← hj.1]
      exact hI.2.2.2.2 _ (hD e he hj.2)
    rcases hop i o a w ho hI.2.2.2.1 hI.2.2.1 hD' with ⟨hw, hwp⟩ | ⟨hw, hv⟩
    · refine .inl ⟨hw, Oper.wp_mono ?_ hwp⟩
      rintro a' w' ⟨rfl, hb⟩
      exact hput i o L a w w' ho hI hb
    · refine .inr ⟨hw, ?_⟩
      have := hput i o L a w w ho hI (Below.refl _ _)
      rwa [hv] at this
  · simp
  · have e : (fun k => (Array.replicate ops.size false).getD k false) = fun _ => false := by
      funext k
      rw [Array.getD_eq_getD_getElem?, Array.getElem?_replicate]
      split <;> rfl
    rw [e]
    exact ⟨rfl, rfl, fun _ _ => rfl, below_drew1 w0, fun k hk => by cases hk⟩
end

theorem yielded_bool {ops : Array Oper} {a : Act} {j : Nat} {o : Oper} {d : Tmp} {b : Bool} (ho : ops[j]? = some o) (hd : o.dst = some d) (h : a.tmps.getD d undef = .bool b) : yielded ops a.tmps j = some b := by
  unfold yielded
  rw [ho, Option.bind_some, hd, Option.bind_some]
  rw [Array.getD_eq_getD_getElem?] at h
  cases ht : a.tmps[d]? with
  | none => rw [ht] at h; cases h
  | some v => rw [ht] at h; simp only [Option.getD_some] at h; subst h; rfl
theorem yielded_undef {ops : Array Oper} {a : Act} {j : Nat} {o : Oper} {d : Tmp} (ho : ops[j]? = some o) (hd : o.dst = some d) (h : a.tmps.getD d undef = undef) : yielded ops a.tmps j = none := by
  unfold yielded
  rw [ho, Option.bind_some, hd, Option.bind_some]
  rw [Array.getD_eq_getD_getElem?] at h
  cases ht : a.tmps[d]? with
  | none => rfl
  | some v => rw [ht] at h; simp only [Option.getD_some] at h; subst h; rfl
theorem wanted_yes {ops : Array Oper} {a : Act} {o o' : Oper} (j : Nat) (d : Tmp) {b : Bool} (hg : o.guard = some (j, b)) (ho : ops[j]? = some o') (hd : o'.dst = some d) (h : a.tmps.getD d undef = .bool b) : Region.wanted o (yielded ops a.tmps) = true := by
  unfold Region.wanted
  rw [hg]
  simp only
  rw [yielded_bool ho hd h]
  simp
theorem wanted_no {ops : Array Oper} {a : Act} {o o' : Oper} (j : Nat) (d : Tmp) {b b' : Bool} (hg : o.guard = some (j, b)) (ho : ops[j]? = some o') (hd : o'.dst = some d) (h : a.tmps.getD d undef = .bool b') (hne : b' ≠ b) : Region.wanted o (yielded ops a.tmps) = false := by
  unfold Region.wanted
  rw [hg]
  simp only
  rw [yielded_bool ho hd h]
  simpa using hne
theorem wanted_none {ops : Array Oper} {a : Act} {o o' : Oper} (j : Nat) (d : Tmp) {b : Bool} (hg : o.guard = some (j, b)) (ho : ops[j]? = some o') (hd : o'.dst = some d) (h : a.tmps.getD d undef = undef) : Region.wanted o (yielded ops a.tmps) = false := by
  unfold Region.wanted
  rw [hg]
  simp only
  rw [yielded_undef ho hd h]
  rfl

theorem act_puts {a : Act} : ∀ (l : List (Nat × Value)) (b : Act), a.tmps.size = b.tmps.size → a.defers = b.defers → (∀ s v, (s, v) ∈ l → s < b.tmps.size ∧ a.tmps.getD s undef = v) → (∀ s, s ∉ l.map (·.1) → a.tmps.getD s undef = b.tmps.getD s undef) →
    a = l.foldl (fun c x => c.put (some x.1) x.2) b
  | [], b, h1, h2, _, h4 => by
    obtain ⟨t, d⟩ := a
    obtain ⟨t', d'⟩ := b
    simp only at h1 h2 h4
    subst h2
    have : t = t' := by
      apply Array.ext h1
      intro i hi hi'
      have := h4 i (by simp)
      rw [Array.getD_eq_getD_getElem?, Array.getD_eq_getD_getElem?, Array.getElem?_eq_getElem hi, Array.getElem?_eq_getElem hi'] at this
      simpa using this
    rw [this]; rfl
  | x :: l, b, h1, h2, h3, h4 => by
    rw [List.foldl_cons]
    refine act_puts l (b.put (some x.1) x.2) (by rw [put_size]; exact h1) (by rw [put_defers']; exact h2) (fun s v hm => by rw [put_size]; exact h3 s v (by simp [hm])) fun s hs => ?_
    by_cases e : s = x.1
    · subst e
      obtain ⟨k1, k2⟩ := h3 x.1 x.2 (by simp)
      rw [put_getD_eq k1, k2]
    · rw [put_getD_ne (fun e' => e (by injection e' with e'; exact e'.symm))]
      exact h4 s (by simp at hs ⊢; exact ⟨e, hs⟩)

end Go.Proofs.YtiijdacnfhiagaaGreatDoor

namespace Go.Proofs.YtiijdacnfhiagaaGreatDoor
open Go Go.RowKit
set_option linter.unusedVariables false

/-- On the way: the operations' values (slots 25 to 28, the boxes 9 and 10). -/
structure P3 (w3 : World) (pv qv : Value) (tp tq : T) (a0 : Act) (L : Nat → Bool) (a : Act) (w : World) (g9 g10 l1 h1 l2 h2 : Nat) (u r : V) : Prop where
  size : a.tmps.size = a0.tmps.size
  defers : a.defers = a0.defers
  other : ∀ s, s ≠ 25 → s ≠ 26 → s ≠ 27 → s ≠ 28 → s ≠ 9 → s ≠ 10 → a.tmps.getD s undef = a0.tmps.getD s undef
  below : Below w3.heap.size w3 w
  o0 : L 0 = true → a.tmps.getD 25 undef = pv
  o2 : L 2 = true → a.tmps.getD 27 undef = qv
  o1 : L 1 = true → a.tmps.getD 26 undef = (.agg #[.int .i64 u.kind, .int .u64 (u.a : Int), .int .u64 (u.b : Int), .slice u.addr u.parts.length u.cap]) ∧ u.abs = tp ∧ Lies w l1 h1 u ∧ w3.heap.size ≤ l1 ∧ h1 ≤ w.heap.size
  o3 : L 3 = true → a.tmps.getD 28 undef = (.agg #[.int .i64 r.kind, .int .u64 (r.a : Int), .int .u64 (r.b : Int), .slice r.addr r.parts.length r.cap]) ∧ r.abs = tq ∧ Lies w l2 h2 r ∧ w3.heap.size ≤ l2 ∧ h2 ≤ w.heap.size
  o4 : L 4 = true → a.tmps.getD 9 undef = .pointer (some ⟨g9, 0, none⟩) ∧ w3.heap.size ≤ g9 ∧ ∃ x0 x1 x2 x3, w.heap[g9]? = some (.cells #[x0, x1, x2, x3] 30 (0, 0))
  o5 : L 5 = true → a.tmps.getD 10 undef = .pointer (some ⟨g10, 0, none⟩) ∧ w3.heap.size ≤ g10 ∧ ∃ x0 x1 x2 x3, w.heap[g10]? = some (.cells #[x0, x1, x2, x3] 30 (0, 0))
  d14 : L 1 = true → L 4 = true → g9 < l1 ∨ h1 ≤ g9
  d34 : L 3 = true → L 4 = true → g9 < l2 ∨ h2 ≤ g9
  d15 : L 1 = true → L 5 = true → g10 < l1 ∨ h1 ≤ g10
  d35 : L 3 = true → L 5 = true → g10 < l2 ∨ h2 ≤ g10
  d45 : L 4 = true → L 5 = true → g9 ≠ g10
  o6 : L 6 = true → L 4 = true ∧ L 1 = true ∧ w.heap[g9]? = some (.cells #[.int .i64 u.kind, .int .u64 (u.a : Int), .int .u64 (u.b : Int), .slice u.addr u.parts.length u.cap] 30 (0, 0))
  o7 : L 7 = true → L 5 = true ∧ L 3 = true ∧ w.heap[g10]? = some (.cells #[.int .i64 r.kind, .int .u64 (r.a : Int), .int .u64 (r.b : Int), .slice r.addr r.parts.length r.cap] 30 (0, 0))

section
variable {w3 : World} {pv qv : Value} {tp tq : T} {a0 : Act} {L : Nat → Bool} {a : Act} {w w' : World} {g9 g10 l1 h1 l2 h2 : Nat} {u r : V}
theorem lt_of_block {W : World} {g : Nat} {o : Obj} (h : W.heap[g]? = some o) : g < W.heap.size := (Array.getElem?_eq_some_iff.1 h).1
theorem P3.grow (h : P3 w3 pv qv tp tq a0 L a w g9 g10 l1 h1 l2 h2 u r) (hb : Below w.heap.size w w') : P3 w3 pv qv tp tq a0 L a w' g9 g10 l1 h1 l2 h2 u r := by
  have kp : ∀ {g : Nat} {o : Obj}, w.heap[g]? = some o → w'.heap[g]? = some o := fun {g o} e => (hb.block g (lt_of_block e)).trans e
  refine ⟨h.size, h.defers, h.other, h.below.trans (hb.mono h.below.size), h.o0, h.o2, fun k => ?_, fun k => ?_, fun k => ?_, fun k => ?_, h.d14, h.d34, h.d15, h.d35, h.d45, fun k => ?_, fun k => ?_⟩
  · obtain ⟨e1, e2, e3, e4, e5⟩ := h.o1 k; exact ⟨e1, e2, e3.under (hb.mono e5), e4, Nat.le_trans e5 hb.size⟩
  · obtain ⟨e1, e2, e3, e4, e5⟩ := h.o3 k; exact ⟨e1, e2, e3.under (hb.mono e5), e4, Nat.le_trans e5 hb.size⟩
  · obtain ⟨e1, e2, x0, x1, x2, x3, e3⟩ := h.o4 k; exact ⟨e1, e2, x0, x1, x2, x3, kp e3⟩
  · obtain ⟨e1, e2, x0, x1, x2, x3, e3⟩ := h.o5 k; exact ⟨e1, e2, x0, x1, x2, x3, kp e3⟩
  · obtain ⟨e1, e2, e3⟩ := h.o6 k; exact ⟨e1, e2, kp e3⟩
  · obtain ⟨e1, e2, e3⟩ := h.o7 k; exact ⟨e1, e2, kp e3⟩
theorem P3.op0 (h : P3 w3 pv qv tp tq a0 L a w g9 g10 l1 h1 l2 h2 u r) (hs : a0.tmps.size = 135) : P3 w3 pv qv tp tq a0 (more L 0) (a.put (some 25) pv) w g9 g10 l1 h1 l2 h2 u r := by
  refine ⟨put_size.trans h.size, put_defers'.trans h.defers, fun s k1 k2 k3 k4 k5 k6 => (put_getD_ne (fun e => k1 (by injection e with e; exact e.symm))).trans (h.other s k1 k2 k3 k4 k5 k6), h.below, fun _ => put_getD_eq (by rw [h.size, hs]; decide), fun k => (put_getD_ne (by decide)).trans (h.o2 k), fun k => ?_, fun k => ?_, fun k => ?_, fun k => ?_, h.d14, h.d34, h.d15, h.d35, h.d45, h.o6, h.o7⟩
  · rw [put_getD_ne (by decide)]; exact h.o1 k
  · rw [put_getD_ne (by decide)]; exact h.o3 k
  · rw [put_getD_ne (by decide)]; exact h.o4 k
  · rw [put_getD_ne (by decide)]; exact h.o5 k
theorem P3.op2 (h : P3 w3 pv qv tp tq a0 L a w g9 g10 l1 h1 l2 h2 u r) (hs : a0.tmps.size = 135) : P3 w3 pv qv tp tq a0 (more L 2) (a.put (some 27) qv) w g9 g10 l1 h1 l2 h2 u r := by
  refine ⟨put_size.trans h.size, put_defers'.trans h.defers, fun s k1 k2 k3 k4 k5 k6 => (put_getD_ne (fun e => k3 (by injection e with e; exact e.symm))).trans (h.other s k1 k2 k3 k4 k5 k6), h.below, fun k => (put_getD_ne (by decide)).trans (h.o0 k), fun _ => put_getD_eq (by rw [h.size, hs]; decide), fun k => ?_, fun k => ?_, fun k => ?_, fun k => ?_, h.d14, h.d34, h.d15, h.d35, h.d45, h.o6, h.o7⟩
  · rw [put_getD_ne (by decide)]; exact h.o1 k
  · rw [put_getD_ne (by decide)]; exact h.o3 k
  · rw [put_getD_ne (by decide)]; exact h.o4 k
  · rw [put_getD_ne (by decide)]; exact h.o5 k
theorem P3.op1 {u' : V} (h : P3 w3 pv qv tp tq a0 L a w g9 g10 l1 h1 l2 h2 u' r) (hs : a0.tmps.size = 135) (h0 : L 1 = false) (hb : Below w.heap.size w w') (hu : u.abs = tp) (hL : Lies w' w.heap.size w'.heap.size u) :
    P3 w3 pv qv tp tq a0 (more L 1) (a.put (some 26) (.agg #[.int .i64 u.kind, .int .u64 (u.a : Int), .int .u64 (u.b : Int), .slice u.addr u.parts.length u.cap])) w' g9 g10 w.heap.size w'.heap.size l2 h2 u r := by
  have g := h.grow hb
  have hb9 : ∀ {k : L 4 = true}, g9 < w.heap.size := fun {k} => by obtain ⟨_, _, x0, x1, x2, x3, e⟩ := h.o4 k; exact lt_of_block e
  have hb10 : ∀ {k : L 5 = true}, g10 < w.heap.size := fun {k} => by obtain ⟨_, _, x0, x1, x2, x3, e⟩ := h.o5 k; exact lt_of_block e
  refine ⟨put_size.trans h.size, put_defers'.trans h.defers, fun s k1 k2 k3 k4 k5 k6 => (put_getD_ne (fun e => k2 (by injection e with e; exact e.symm))).trans (h.other s k1 k2 k3 k4 k5 k6), g.below, fun k => (put_getD_ne (by decide)).trans (h.o0 k), fun k => (put_getD_ne (by decide)).trans (h.o2 k), fun _ => ⟨put_getD_eq (by rw [h.size, hs]; decide), hu, hL, h.below.size, Nat.le_refl _⟩, fun k => ?_, fun k => ?_, fun k => ?_, fun _ k => .inl (hb9 (k := k)), h.d34, fun _ k => .inl (hb10 (k := k)), h.d35, h.d45, fun k => ?_, fun k => g.o7 k⟩
  · rw [put_getD_ne (by decide)]; exact g.o3 k
  · rw [put_getD_ne (by decide)]; exact g.o4 k
  · rw [put_getD_ne (by decide)]; exact g.o5 k
  · have := (h.o6 k).2.1; rw [h0] at this; cases this
theorem P3.op3 {r' : V} (h : P3 w3 pv qv tp tq a0 L a w g9 g10 l1 h1 l2 h2 u r') (hs : a0.tmps.size = 135) (h0 : L 3 = false) (hb : Below w.heap.size w w') (hr : r.abs = tq) (hL : Lies w' w.heap.size w'.heap.size r) :
    P3 w3 pv qv tp tq a0 (more L 3) (a.put (some 28) (.agg #[.int .i64 r.kind, .int .u64 (r.a : Int), .int .u64 (r.b : Int), .slice r.addr r.parts.length r.cap])) w' g9 g10 l1 h1 w.heap.size w'.heap.size u r := by
  have g := h.grow hb
  have hb9 : ∀ {k : L 4 = true}, g9 < w.heap.size := fun {k} => by obtain ⟨_, _, x0, x1, x2, x3, e⟩ := h.o4 k; exact lt_of_block e
  have hb10 : ∀ {k : L 5 = true}, g10 < w.heap.size := fun {k} => by obtain ⟨_, _, x0, x1, x2, x3, e⟩ := h.o5 k; exact lt_of_block e
  refine ⟨put_size.trans h.size, put_defers'.trans h.defers, fun s k1 k2 k3 k4 k5 k6 => (put_getD_ne (fun e => k4 (by injection e with e; exact e.symm))).trans (h.other s k1 k2 k3 k4 k5 k6), g.below, fun k => (put_getD_ne (by decide)).trans (h.o0 k), fun k => (put_getD_ne (by decide)).trans (h.o2 k), fun k => ?_, fun _ => ⟨put_getD_eq (by rw [h.size, hs]; decide), hr, hL, h.below.size, Nat.le_refl _⟩, fun k => ?_, fun k => ?_, h.d14, fun _ k => .inl (hb9 (k := k)), h.d15, fun _ k => .inl (hb10 (k := k)), h.d45, fun k => g.o6 k, fun k => ?_⟩
  · rw [put_getD_ne (by decide)]; exact g.o1 k
  · rw [put_getD_ne (by decide)]; exact g.o4 k
  · rw [put_getD_ne (by decide)]; exact g.o5 k
  · have := (h.o7 k).2.1; rw [h0] at this; cases this
theorem P3.op4 {g9' : Nat} (h : P3 w3 pv qv tp tq a0 L a w g9' g10 l1 h1 l2 h2 u r) (hs : a0.tmps.size = 135) (h0 : L 4 = false) (z0 z1 z2 z3 : Value) :
    P3 w3 pv qv tp tq a0 (more L 4) (a.put (some 9) (.pointer (some ⟨w.heap.size, 0, none⟩))) (w.alloc (.cells #[z0, z1, z2, z3] 30)) w.heap.size g10 l1 h1 l2 h2 u r := by
  have g := h.grow (below_new w (.cells #[z0, z1, z2, z3] 30))
  refine ⟨put_size.trans h.size, put_defers'.trans h.defers, fun s k1 k2 k3 k4 k5 k6 => (put_getD_ne (fun e => k5 (by injection e with e; exact e.symm))).trans (h.other s k1 k2 k3 k4 k5 k6), g.below, fun k => (put_getD_ne (by decide)).trans (h.o0 k), fun k => (put_getD_ne (by decide)).trans (h.o2 k), fun k => ?_, fun k => ?_, fun _ => ⟨put_getD_eq (by rw [h.size, hs]; decide), h.below.size, z0, z1, z2, z3, heap_alloc_new w _⟩, fun k => ?_, fun k _ => .inr (h.o1 k).2.2.2.2, fun k _ => .inr (h.o3 k).2.2.2.2, h.d15, h.d35, fun _ k => ?_, fun k => ?_, fun k => g.o7 k⟩
  · rw [put_getD_ne (by decide)]; exact g.o1 k
  · rw [put_getD_ne (by decide)]; exact g.o3 k
  · rw [put_getD_ne (by decide)]; exact g.o5 k
  · obtain ⟨_, _, x0, x1, x2, x3, e⟩ := h.o5 k; have := lt_of_block e; omega
  · have := (h.o6 k).1; rw [h0] at this; cases this
theorem P3.op5 {g10' : Nat} (h : P3 w3 pv qv tp tq a0 L a w g9 g10' l1 h1 l2 h2 u r) (hs : a0.tmps.size = 135) (h0 : L 5 = false) (z0 z1 z2 z3 : Value) :
    P3 w3 pv qv tp tq a0 (more L 5) (a.put (some 10) (.pointer (some ⟨w.heap.size, 0, none⟩))) (w.alloc (.cells #[z0, z1, z2, z3] 30)) g9 w.heap.size l1 h1 l2 h2 u r := by
  have g := h.grow (below_new w (.cells #[z0, z1, z2, z3] 30))
  refine ⟨put_size.trans h.size, put_defers'.trans h.defers, fun s k1 k2 k3 k4 k5 k6 => (put_getD_ne (fun e => k6 (by injection e with e; exact e.symm))).trans (h.other s k1 k2 k3 k4 k5 k6), g.below, fun k => (put_getD_ne (by decide)).trans (h.o0 k), fun k => (put_getD_ne (by decide)).trans (h.o2 k), fun k => ?_, fun k => ?_, fun k => ?_, fun _ => ⟨put_getD_eq (by rw [h.size, hs]; decide), h.below.size, z0, z1, z2, z3, heap_alloc_new w _⟩, h.d14, h.d34, fun k _ => .inr (h.o1 k).2.2.2.2, fun k _ => .inr (h.o3 k).2.2.2.2, fun k _ => ?_, fun k => g.o6 k, fun k => ?_⟩
  · rw [put_getD_ne (by decide)]; exact g.o1 k
  · rw [put_getD_ne (by decide)]; exact g.o3 k
  · rw [put_getD_ne (by decide)]; exact g.o4 k
  · obtain ⟨_, _, x0, x1, x2, x3, e⟩ := h.o4 k; have := lt_of_block e; omega
  · have := (h.o7 k).1; rw [h0] at this; cases this
theorem P3.store (h : P3 w3 pv qv tp tq a0 L a w g9 g10 l1 h1 l2 h2 u r) {g : Nat} {x0 x1 x2 x3 : Value} (y0 y1 y2 y3 : Value) (hg : w.heap[g]? = some (.cells #[x0, x1, x2, x3] 30 (0, 0))) (hg3 : w3.heap.size ≤ g) (h1g : L 1 = true → g < l1 ∨ h1 ≤ g) (h3g : L 3 = true → g < l2 ∨ h2 ≤ g)
    (h6 : L 6 = true → g ≠ g9) (h7 : L 7 = true → g ≠ g10) : P3 w3 pv qv tp tq a0 L a (put4 w g y0 y1 y2 y3) g9 g10 l1 h1 l2 h2 u r := by
  have hr := put4_row hg y0 y1 y2 y3
  refine ⟨h.size, h.defers, h.other, put4_below h.below hg3 _ _ _ _, h.o0, h.o2, fun k => ?_, fun k => ?_, fun k => ?_, fun k => ?_, h.d14, h.d34, h.d15, h.d35, h.d45, fun k => ?_, fun k => ?_⟩
  · obtain ⟨e1, e2, e3, e4, e5⟩ := h.o1 k
    exact ⟨e1, e2, e3.keep fun p k1 k2 => World.cell?_of_block (put4_else w (by have := h1g k; omega) _ _ _ _), e4, by rw [put4_size]; exact e5⟩
  · obtain ⟨e1, e2, e3, e4, e5⟩ := h.o3 k
    exact ⟨e1, e2, e3.keep fun p k1 k2 => World.cell?_of_block (put4_else w (by have := h3g k; omega) _ _ _ _), e4, by rw [put4_size]; exact e5⟩
  · obtain ⟨e1, e2, v0, v1, v2, v3, e3⟩ := h.o4 k
    by_cases e : g9 = g
    · subst e; exact ⟨e1, e2, _, _, _, _, hr⟩
    · exact ⟨e1, e2, v0, v1, v2, v3, (put4_else w e _ _ _ _).trans e3⟩
  · obtain ⟨e1, e2, v0, v1, v2, v3, e3⟩ := h.o5 k
    by_cases e : g10 = g
    · subst e; exact ⟨e1, e2, _, _, _, _, hr⟩
    · exact ⟨e1, e2, v0, v1, v2, v3, (put4_else w e _ _ _ _).trans e3⟩
  · obtain ⟨e1, e2, e3⟩ := h.o6 k; exact ⟨e1, e2, (put4_else w (fun e => h6 k e.symm) _ _ _ _).trans e3⟩
  · obtain ⟨e1, e2, e3⟩ := h.o7 k; exact ⟨e1, e2, (put4_else w (fun e => h7 k e.symm) _ _ _ _).trans e3⟩
theorem P3.op6 (h : P3 w3 pv qv tp tq a0 L a w g9 g10 l1 h1 l2 h2 u r) (h0 : L 6 = false) (k1 : L 1 = true) (k4 : L 4 = true) (k5 : L 5 = true) :
    P3 w3 pv qv tp tq a0 (more L 6) a (put4 w g9 (.int .i64 u.kind) (.int .u64 (u.a : Int)) (.int .u64 (u.b : Int)) (.slice u.addr u.parts.length u.cap)) g9 g10 l1 h1 l2 h2 u r := by
  obtain ⟨_, e2, x0, x1, x2, x3, e3⟩ := h.o4 k4
  have g := h.store (.int .i64 u.kind) (.int .u64 (u.a : Int)) (.int .u64 (u.b : Int)) (.slice u.addr u.parts.length u.cap) e3 e2 (fun k => h.d14 k k4) (fun k => h.d34 k k4) (fun k => by rw [h0] at k; cases k) (fun _ => h.d45 k4 k5)
  exact ⟨g.size, g.defers, g.other, g.below, g.o0, g.o2, g.o1, g.o3, g.o4, g.o5, g.d14, g.d34, g.d15, g.d35, g.d45, fun _ => ⟨k4, k1, put4_row e3 _ _ _ _⟩, g.o7⟩
theorem P3.op7 (h : P3 w3 pv qv tp tq a0 L a w g9 g10 l1 h1 l2 h2 u r) (h0 : L 7 = false) (k3 : L 3 = true) (k4 : L 4 = true) (k5 : L 5 = true) :
    P3 w3 pv qv tp tq a0 (more L 7) a (put4 w g10 (.int .i64 r.kind) (.int .u64 (r.a : Int)) (.int .u64 (r.b : Int)) (.slice r.addr r.parts.length r.cap)) g9 g10 l1 h1 l2 h2 u r := by
  obtain ⟨_, e2, x0, x1, x2, x3, e3⟩ := h.o5 k5
  have g := h.store (.int .i64 r.kind) (.int .u64 (r.a : Int)) (.int .u64 (r.b : Int)) (.slice r.addr r.parts.length r.cap) e3 e2 (fun k => h.d15 k k5) (fun k => h.d35 k k5) (fun _ e => h.d45 k4 k5 e.symm) (fun k => by rw [h0] at k; cases k)
  exact ⟨g.size, g.defers, g.other, g.below, g.o0, g.o2, g.o1, g.o3, g.o4, g.o5, g.d14, g.d34, g.d15, g.d35, g.d45, g.o6, fun _ => ⟨k5, k3, put4_row e3 _ _ _ _⟩⟩
end

theorem act_eq {a b : Act} (h1 : a.tmps.size = b.tmps.size) (h2 : a.defers = b.defers) (h3 : ∀ s, a.tmps.getD s undef = b.tmps.getD s undef) : a = b := by
  obtain ⟨t, d⟩ := a
  obtain ⟨t', d'⟩ := b
  simp only at h1 h2 h3
  subst h2
  have : t = t' := by
    apply Array.ext h1
    intro i hi hi'
    have := h3 i
    rw [Array.getD_eq_getD_getElem?, Array.getD_eq_getD_getElem?, Array.getElem?_eq_getElem hi, Array.getElem?_eq_getElem hi'] at this
    simpa using this
  rw [this]
theorem P3.act {w3 : World} {pv qv : Value} {tp tq : T} {a0 : Act} {L : Nat → Bool} {a : Act} {w : World} {g9 g10 l1 h1 l2 h2 : Nat} {u r : V} (h : P3 w3 pv qv tp tq a0 L a w g9 g10 l1 h1 l2 h2 u r) (hs : a0.tmps.size = 135) (hL : ∀ i, i < 8 → L i = true) :
    a = (((((a0.put (some 25) pv).put (some 26) (.agg #[.int .i64 u.kind, .int .u64 (u.a : Int), .int .u64 (u.b : Int), .slice u.addr u.parts.length u.cap])).put (some 27) qv).put (some 28) (.agg #[.int .i64 r.kind, .int .u64 (r.a : Int), .int .u64 (r.b : Int), .slice r.addr r.parts.length r.cap])).put (some 9) (.pointer (some ⟨g9, 0, none⟩))).put (some 10) (.pointer (some ⟨g10, 0, none⟩)) := by
  have k0 := h.o0 (hL 0 (by omega))
  have k1 := (h.o1 (hL 1 (by omega))).1
  have k2 := h.o2 (hL 2 (by omega))
  have k3 := (h.o3 (hL 3 (by omega))).1
  have k4 := (h.o4 (hL 4 (by omega))).1
  have k5 := (h.o5 (hL 5 (by omega))).1
  refine act_eq ?_ ?_ fun s => ?_
  · rw [put_size, put_size, put_size, put_size, put_size, put_size]; exact h.size
  · rw [put_defers', put_defers', put_defers', put_defers', put_defers', put_defers']; exact h.defers
  · by_cases e10 : s = 10
    · subst e10
      rw [put_getD_eq (by rw [put_size, put_size, put_size, put_size, put_size, hs]; decide)]
      exact k5
    rw [put_getD_ne (fun e => e10 (by injection e with e; exact e.symm))]
    by_cases e9 : s = 9
    · subst e9
      rw [put_getD_eq (by rw [put_size, put_size, put_size, put_size, hs]; decide)]
      exact k4
    rw [put_getD_ne (fun e => e9 (by injection e with e; exact e.symm))]
    by_cases e28 : s = 28
    · subst e28
      rw [put_getD_eq (by rw [put_size, put_size, put_size, hs]; decide)]
      exact k3
    rw [put_getD_ne (fun e => e28 (by injection e with e; exact e.symm))]
    by_cases e27 : s = 27
    · subst e27
      rw [put_getD_eq (by rw [put_size, put_size, hs]; decide)]
      exact k2
    rw [put_getD_ne (fun e => e27 (by injection e with e; exact e.symm))]
    by_cases e26 : s = 26
    · subst e26
      rw [put_getD_eq (by rw [put_size, hs]; decide)]
      exact k1
    rw [put_getD_ne (fun e => e26 (by injection e with e; exact e.symm))]
    by_cases e25 : s = 25
    · subst e25
      rw [put_getD_eq (by rw [hs]; decide)]
      exact k0
    rw [put_getD_ne (fun e => e25 (by injection e with e; exact e.symm))]
    exact h.other s e25 e26 e27 e28 e9 e10

end Go.Proofs.YtiijdacnfhiagaaGreatDoor
