/-
  A region that draws its order, by what holds of each operation's value: shown once for each operation, from any state in which the operations that it waits for are done; so it holds for every order. No program is named here.
-/
import Derived.Test.YtopecdkkmbpnbaaMem
import Derived.Orders
namespace Go.Proofs.Ytopecdkkmbpnbaa
open Go Go.RowKit
set_option linter.unusedVariables false

section
variable {P : Program} {ops : Array Oper} {Q : Exit → Act → World → Prop} {Pr : Nat → Value → World → Prop} {a0 : Act} {w0 : World}

/-- The slots that a region's operations write. -/
def dsts (ops : Array Oper) : List Tmp := ops.toList.filterMap (·.dst)

/-- In the middle of a region. -/
structure Mid (ops : Array Oper) (Pr : Nat → Value → World → Prop) (a0 : Act) (w0 : World) (a : Act) (w : World) : Prop where
  tmps : a.tmps.size = a0.tmps.size
  defers : a.defers = a0.defers
  below : Below w0.heap.size w0 w
  other : ∀ s, s ∉ dsts ops → a.tmps.getD s undef = a0.tmps.getD s undef

def Done (ops : Array Oper) (Pr : Nat → Value → World → Prop) (i : Nat) (a : Act) (w : World) : Prop := ∀ o d, ops[i]? = some o → o.dst = some d → Pr i (a.tmps.getD d undef) w

theorem mem_dsts {i : Nat} {o : Oper} {d : Tmp} (h : ops[i]? = some o) (hd : o.dst = some d) : d ∈ dsts ops := by
  unfold dsts
  rw [List.mem_filterMap]
  refine ⟨o, ?_, hd⟩
  have : ops.toList[i]? = some o := by simpa using h
  exact List.mem_of_getElem? this
theorem dst_inj (hnd : (dsts ops).Nodup) {i j : Nat} {o o' : Oper} {d : Tmp} (h : ops[i]? = some o) (h' : ops[j]? = some o') (hd : o.dst = some d) (hd' : o'.dst = some d) : i = j := by
  obtain ⟨l⟩ := ops
  simp only [List.getElem?_toArray] at h h'
  unfold dsts at hnd
  simp only at hnd
  induction l generalizing i j with
  | nil => simp at h
  | cons x l ih =>
    cases hx : x.dst with
    | none =>
      rw [List.filterMap_cons_none hx] at hnd
      cases i with
      | zero => simp at h; subst h; rw [hx] at hd; cases hd
      | succ i =>
        cases j with
        | zero => simp at h'; subst h'; rw [hx] at hd'; cases hd'
        | succ j => rw [ih (i := i) (j := j) hnd (by simpa using h) (by simpa using h')]
    | some e =>
      rw [List.filterMap_cons_some hx, List.nodup_cons] at hnd
      cases i with
      | zero =>
        simp at h
        subst h
        rw [hx] at hd
        cases j with
        | zero => rfl
        | succ j =>
          exfalso
          injection hd with hd
          subst hd
          exact hnd.1 (List.mem_filterMap.2 ⟨o', List.mem_of_getElem? (by simpa using h'), hd'⟩)
      | succ i =>
        cases j with
        | zero =>
          exfalso
          simp at h'
          subst h'
          rw [hx] at hd'
          injection hd' with hd'
          subst hd'
          exact hnd.1 (List.mem_filterMap.2 ⟨o, List.mem_of_getElem? (by simpa using h), hd⟩)
        | succ j => rw [ih (i := i) (j := j) hnd.2 (by simpa using h) (by simpa using h')]

theorem put_getD_ne {a : Act} {dst : Option Tmp} {v : Value} {s : Tmp} (h : dst ≠ some s) : (a.put dst v).tmps.getD s undef = a.tmps.getD s undef := by
  cases dst with
  | none => rfl
  | some d =>
    have : d ≠ s := fun e => h (by rw [e])
    simp [Act.put, Array.getD_eq_getD_getElem?, this]
theorem put_getD_eq {a : Act} {v : Value} {d : Tmp} (h : d < a.tmps.size) : (a.put (some d) v).tmps.getD d undef = v := by
  simp [Act.put, Array.getD_eq_getD_getElem?, h]
theorem put_size {a : Act} {dst : Option Tmp} {v : Value} : (a.put dst v).tmps.size = a.tmps.size := by cases dst <;> simp [Act.put]
theorem put_defers' {a : Act} {dst : Option Tmp} {v : Value} : (a.put dst v).defers = a.defers := by cases dst <;> simp [Act.put]

/-- All operations are done, when none is ready. -/
theorem all_listed (hback : ∀ (i : Nat) (o : Oper), ops[i]? = some o → ∀ e ∈ o.after, e.on < i) {listed : Array Bool} (hs : listed.size = ops.size) (hr : Region.ready .any ops listed = []) : ∀ i, i < ops.size → listed.getD i false = true := by
  intro i
  induction i using Nat.strongRecOn with
  | ind i ih =>
    intro hi
    cases h : listed.getD i false with
    | true => rfl
    | false =>
      exfalso
      have hm : i ∈ Region.ready .any ops listed := by
        rw [mem_ready]
        refine ⟨?_, ops[i], Array.getElem?_eq_getElem hi, fun e he _ => ih e.on (hback i _ (Array.getElem?_eq_getElem hi) e he) ?_⟩
        · have hi' : i < listed.size := by omega
          rw [Array.getD_eq_getD_getElem?, Array.getElem?_eq_getElem hi'] at h ⊢
          exact h
        · have := hback i _ (Array.getElem?_eq_getElem hi) e he
          omega
      rw [hr] at hm
      cases hm

theorem wpAny_mid (hnd : (dsts ops).Nodup) (hlt : ∀ d ∈ dsts ops, d < a0.tmps.size) (hback : ∀ (i : Nat) (o : Oper), ops[i]? = some o → ∀ e ∈ o.after, e.on < i)
    (hst : ∀ i v w w', Below w0.heap.size w0 w → Below w.heap.size w w' → Pr i v w → Pr i v w')
    (hop : ∀ i o a w, ops[i]? = some o → Mid ops Pr a0 w0 a w → (∀ e ∈ o.after, Region.binds .any e = true → Done ops Pr e.on a w) →
      Region.wanted o (yielded ops a.tmps) = true ∧ o.wp P a w (fun a' w' => ∃ v, a' = a.put o.dst v ∧ Pr i v w' ∧ Below w.heap.size w w') Q)
    (hend : ∀ a w, Mid ops Pr a0 w0 a w → (∀ i, i < ops.size → Done ops Pr i a w) → Q .normal a w) :
    ∀ (fuel : Nat) (listed : Array Bool) (a : Act) (w : World), listed.size = ops.size → listed.toList.count false ≤ fuel → Mid ops Pr a0 w0 a w → (∀ i, listed.getD i false = true → Done ops Pr i a w) → wpAny P .any ops Q fuel listed a w := by
  intro fuel
  induction fuel with
  | zero =>
    intro listed a w hs hc hM hD
    have hall : ∀ i, i < ops.size → listed.getD i false = true := by
      intro i hi
      cases h : listed.getD i false with
      | true => rfl
      | false =>
        exfalso
        have hi' : i < listed.size := by omega
        rw [Array.getD_eq_getD_getElem?, Array.getElem?_eq_getElem hi'] at h
        have : false ∈ listed.toList := by
          rw [← h]; simp
        have := List.count_pos_iff.2 this
        omega
    refine ⟨?_, hend a w hM fun i hi => hD i (hall i hi)⟩
    apply List.eq_nil_iff_forall_not_mem.2
    intro j hj
    rw [mem_ready] at hj
    obtain ⟨h1, o, ho, _⟩ := hj
    have hlt := (Array.getElem?_eq_some_iff.1 ho).1
    have h2 := hall j hlt
    have hi' : j < listed.size := by omega
    rw [Array.getD_eq_getD_getElem?, Array.getElem?_eq_getElem hi'] at h1 h2
    simp at h1 h2
    rw [h1] at h2; cases h2
  | succ fuel ih =>
    intro listed a w hs hc hM hD
    refine ⟨fun hr => hend a w hM fun i hi => hD i (all_listed hback hs hr i hi), fun i hi => ?_⟩
    rw [mem_ready] at hi
    obtain ⟨h1, o, ho, haf⟩ := hi
    have hlt' := (Array.getElem?_eq_some_iff.1 ho).1
    have hi' : i < listed.size := by omega
    obtain ⟨hw, hwp⟩ := hop i o a w ho hM fun e he hb => hD e.on (haf e he hb)
    unfold wpOp
    rw [ho]
    simp only [hw, if_true]
    refine .inl (Oper.wp_mono ?_ hwp)
    rintro a' w' ⟨v, rfl, hv, hbl⟩
    have hbl0 : Below w0.heap.size w0 w' := hM.below.trans (hbl.mono hM.below.size)
    refine ih _ _ _ (by simpa using hs) ?_ ⟨?_, ?_, hbl0, ?_⟩ ?_
    · have hf : listed.toList[i]'(by simpa using hi') = false := by
        rw [Array.getD_eq_getD_getElem?, Array.getElem?_eq_getElem hi'] at h1
        simpa using h1
      have : (listed.setIfInBounds i true).toList = listed.toList.set i true := by simp
      rw [this, List.count_set (by simpa using hi'), hf]
      have hpos : 0 < listed.toList.count false := List.count_pos_iff.2 (by rw [← hf]; exact List.getElem_mem _)
      have e1 : ((false == false) = true) := rfl
      have e2 : ¬ ((true == false) = true) := by decide
      rw [if_pos e1, if_neg e2]
      omega
    · rw [put_size]; exact hM.tmps
    · rw [put_defers']; exact hM.defers
    · intro s hsd
      rw [put_getD_ne (fun e => hsd (mem_dsts ho e))]
      exact hM.other s hsd
    · intro j hj
      by_cases hji : j = i
      · subst hji
        intro o' d ho' hd
        obtain rfl : o' = o := Option.some.inj (ho'.symm.trans ho)
        rw [hd, put_getD_eq (by rw [hM.tmps]; exact hlt d (mem_dsts ho hd))]
        exact hv
      · have hj2 : listed.getD j false = true := by
          rw [Array.getD_eq_getD_getElem?, Array.getElem?_setIfInBounds] at hj
          have : ¬ i = j := fun e => hji e.symm
          simp only [this, if_false] at hj
          rw [Array.getD_eq_getD_getElem?]
          exact hj
        intro o' d ho' hd
        rw [put_getD_ne (fun e => hji (dst_inj hnd ho' ho hd e))]
        exact hst j _ w w' hM.below hbl (hD j hj2 o' d ho' hd)

/-- The region's operations: each writes a slot of its own below N, and waits for earlier ones alone. -/
def regionOk (ops : Array Oper) (N : Nat) : Bool :=
  decide (dsts ops).Nodup && (dsts ops).all (fun d => decide (d < N)) && (List.range ops.size).all fun i => ((ops[i]?).map fun o => o.after.all fun e => decide (e.on < i)).getD true
theorem regionOk_back {N : Nat} (h : regionOk ops N = true) (i : Nat) (o : Oper) (ho : ops[i]? = some o) : ∀ e ∈ o.after, e.on < i := by
  simp only [regionOk, Bool.and_eq_true] at h
  have hlt := (Array.getElem?_eq_some_iff.1 ho).1
  have := (List.all_eq_true.1 h.2) i (by rw [List.mem_range]; exact hlt)
  rw [ho] at this
  intro e he
  simp only [Option.map_some, Option.getD_some] at this
  have h2 := (Array.all_eq_true_iff_forall_mem.1 this) e he
  simpa using h2

/-- An operation that ends with the value v, in the world w'. -/
theorem mid_step {o : Oper} {a : Act} {w : World} {K0 : Act → World → Prop} (v : Value) (w' : World) (h : ∀ K : Act → World → Prop, K (a.put o.dst v) w' → o.wp P a w K Q) (hK : K0 (a.put o.dst v) w') : o.wp P a w K0 Q := h K0 hK

/-- An operation that ends with some value, in some world, of which R holds. -/
theorem mid_call {o : Oper} {a : Act} {w : World} {K0 : Act → World → Prop} (R : Value → World → Prop) (h : ∀ K : Act → World → Prop, (∀ v w', R v w' → K (a.put o.dst v) w') → o.wp P a w K Q) (hK : ∀ v w', R v w' → K0 (a.put o.dst v) w') : o.wp P a w K0 Q := h K0 hK

theorem below_drew1i (w : World) : Below w.heap.size w { w with drawn := w.drawn + 1 } := ⟨rfl, rfl, rfl, Nat.le_refl _, fun _ _ => rfl⟩

/-- A REGION THAT DRAWS ITS ORDER, BY WHAT HOLDS OF EACH OPERATION'S VALUE. -/
theorem wp_region_mid {id N : Nat} (Pr : Nat → Value → World → Prop) (hm : P.follows .mixedOrders = true) (hok : regionOk ops N = true) (hN : a0.tmps.size = N)
    (hst : ∀ i v w w', Below w0.heap.size w0 w → Below w.heap.size w w' → Pr i v w → Pr i v w')
    (hop : ∀ i o a w, ops[i]? = some o → Mid ops Pr a0 w0 a w → (∀ j, (o.after.any fun e => e.on == j && Region.binds .any e) = true → Done ops Pr j a w) →
      Region.wanted o (yielded ops a.tmps) = true ∧ o.wp P a w (fun a' w' => ∃ v, a' = a.put o.dst v ∧ Pr i v w' ∧ Below w.heap.size w w') Q)
    (hend : ∀ a w, Mid ops Pr a0 w0 a w → (∀ i, i < ops.size → Done ops Pr i a w) → Q .normal a w) :
    (Code.region id ops true).wp P Q a0 w0 := by
  have hok' := hok
  simp only [regionOk, Bool.and_eq_true, decide_eq_true_eq] at hok'
  refine wp_region_any hm (wpAny_mid hok'.1.1 (fun d hd => by rw [hN]; simpa using (List.all_eq_true.1 hok'.1.2) d hd) (regionOk_back hok) hst (fun i o a w ho hM hD => hop i o a w ho hM fun j hj => ?_) hend _ _ _ _ (by simp) ?_ ⟨rfl, rfl, below_drew1i w0, fun _ _ => rfl⟩ ?_)
  · rw [← Array.any_toList, List.any_eq_true] at hj
    obtain ⟨e, he, hj⟩ := hj
    have he := Array.mem_toList_iff.1 he
    simp only [Bool.and_eq_true, beq_iff_eq] at hj
    rw [← hj.1]
    exact hD e he hj.2
  · simp
  · intro i hi
    exfalso
    rw [Array.getD_eq_getD_getElem?, Array.getElem?_replicate] at hi
    split at hi <;> simp at hi
end

end Go.Proofs.Ytopecdkkmbpnbaa
