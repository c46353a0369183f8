/-
  A region that draws its order, by what holds of each operation's value: shown once for each operation, from any state in which the operations that it waits for are done; so it holds for every order. No program is named here.
  A region that draws its order, one of whose operations writes a row. No program is named here.
  A region that draws its order, in a round of a range over a function: the law of Inw, inside that fence. No program is named here.
  The contract of the statement's told, for the program's All.
  The contract of the statement's told: the walk.
  A row that came in, written over and put back. No program is named here.
  Spoil and copy over a row that came in.
  The statement's function FrameGets returns true, for every input.
  FrameKnown: the frames that it makes, as a row of the call's own.
  The statement's function FrameKnown returns true.
-/
import Derived.Test.YtedglcbeheeonaaDoorMem
import Derived.Orders
import Derived.OrdersIn
import Derived.RangeFuncCalls
import Derived.Test.YtedglcbeheeonaaDoorSam
import Derived.Laws.IdiomCopy
import Derived.Deep.AppendLies
import Derived.Lib.SmallJoins
import Derived.Test.YtedglcbeheeonaaDoorFrs
import Derived.Test.YtedglcbeheeonaaDoorFge
import Derived.Test.YtedglcbeheeonaaDoorFwk
import Derived.Lib.SlBuf
import Derived.Test.YtedglcbeheeonaaDoorFbk
import Derived.Test.YtedglcbeheeonaaDoorStl

namespace Go.Proofs.YtedglcbeheeonaaDoor
open Go Go.RowKit
set_option linter.unusedVariables false

section
variable {P : Program} {ops : Array Oper} {Q : Exit → Act → World → Prop} {Pr : Nat → Value → World → Prop} {a0 : Act} {w0 : World}

/-- The slots that a region's operations write. -/
def dsts (ops : Array Oper) : List Tmp := ops.toList.filterMap (·.dst)

/-- In the middle of a region. -/
structure Mid (ops : Array Oper) (Pr : Nat → Value → World → Prop) (a0 : Act) (w0 : World) (a : Act) (w : World) : Prop where
  tmps : a.tmps.size = a0.tmps.size
  defers : a.defers = a0.defers
  below : Below w0.heap.size w0 w
  other : ∀ s, s ∉ dsts ops → a.tmps.getD s undef = a0.tmps.getD s undef

def Done (ops : Array Oper) (Pr : Nat → Value → World → Prop) (i : Nat) (a : Act) (w : World) : Prop := ∀ o d, ops[i]? = some o → o.dst = some d → Pr i (a.tmps.getD d undef) w

theorem mem_dsts {i : Nat} {o : Oper} {d : Tmp} (h : ops[i]? = some o) (hd : o.dst = some d) : d ∈ dsts ops := by
  unfold dsts
  rw [List.mem_filterMap]
  refine ⟨o, ?_, hd⟩
  have : ops.toList[i]? = some o := by simpa using h
  exact List.mem_of_getElem? this
theorem dst_inj (hnd : (dsts ops).Nodup) {i j : Nat} {o o' : Oper} {d : Tmp} (h : ops[i]? = some o) (h' : ops[j]? = some o') (hd : o.dst = some d) (hd' : o'.dst = some d) : i = j := by
  obtain ⟨l⟩ := ops
  simp only [List.getElem?_toArray] at h h'
  unfold dsts at hnd
  simp only at hnd
  induction l generalizing i j with
  | nil => simp at h
  | cons x l ih =>
    cases hx : x.dst with
    | none =>
      rw [List.filterMap_cons_none hx] at hnd
      cases i with
      | zero => simp at h; subst h; rw [hx] at hd; cases hd
      | succ i =>
        cases j with
        | zero => simp at h'; subst h'; rw [hx] at hd'; cases hd'
        | succ j => rw [ih (i := i) (j := j) hnd (by simpa using h) (by simpa using h')]
    | some e =>
      rw [List.filterMap_cons_some hx, List.nodup_cons] at hnd
      cases i with
      | zero =>
        simp at h
        subst h
        rw [hx] at hd
        cases j with
        | zero => rfl
        | succ j =>
          exfalso
          injection hd with hd
          subst hd
          exact hnd.1 (List.mem_filterMap.2 ⟨o', List.mem_of_getElem? (by simpa using h'), hd'⟩)
      | succ i =>
        cases j with
        | zero =>
          exfalso
          simp at h'
          subst h'
          rw [hx] at hd'
          injection hd' with hd'
          subst hd'
          exact hnd.1 (List.mem_filterMap.2 ⟨o, List.mem_of_getElem? (by simpa using h), hd⟩)
        | succ j => rw [ih (i := i) (j := j) hnd.2 (by simpa using h) (by simpa using h')]

theorem put_getD_ne {a : Act} {dst : Option Tmp} {v : Value} {s : Tmp} (h : dst ≠ some s) : (a.put dst v).tmps.getD s undef = a.tmps.getD s undef := by
  cases dst with
  | none => rfl
  | some d =>
    have : d ≠ s := fun e => h (by rw [e])
    simp [Act.put, Array.getD_eq_getD_getElem?, this]
theorem put_getD_eq {a : Act} {v : Value} {d : Tmp} (h : d < a.tmps.size) : (a.put (some d) v).tmps.getD d undef = v := by
  simp [Act.put, Array.getD_eq_getD_getElem?, h]
theorem put_size {a : Act} {dst : Option Tmp} {v : Value} : (a.put dst v).tmps.size = a.tmps.size := by cases dst <;> simp [Act.put]
theorem put_defers' {a : Act} {dst : Option Tmp} {v : Value} : (a.put dst v).defers = a.defers := by cases dst <;> simp [Act.put]

/-- All operations are done, when none is ready. -/
theorem all_listed (hback : ∀ (i : Nat) (o : Oper), ops[i]? = some o → ∀ e ∈ o.after, e.on < i) {listed : Array Bool} (hs : listed.size = ops.size) (hr : Region.ready .any ops listed = []) : ∀ i, i < ops.size → listed.getD i false = true := by
  intro i
  induction i using Nat.strongRecOn with
  | ind i ih =>
    intro hi
    cases h : listed.getD i false with
    | true => rfl
    | false =>
      exfalso
      have hm : i ∈ Region.ready .any ops listed := by
        rw [mem_ready]
        refine ⟨?_, ops[i], Array.getElem?_eq_getElem hi, fun e he _ => ih e.on (hback i _ (Array.getElem?_eq_getElem hi) e he) ?_⟩
        · have hi' : i < listed.size := by omega
          rw [Array.getD_eq_getD_getElem?, Array.getElem?_eq_getElem hi'] at h ⊢
          exact h
        · have := hback i _ (Array.getElem?_eq_getElem hi) e he
          omega
      rw [hr] at hm
      cases hm

theorem wpAny_mid (hnd : (dsts ops).Nodup) (hlt : ∀ d ∈ dsts ops, d < a0.tmps.size) (hback : ∀ (i : Nat) (o : Oper), ops[i]? = some o → ∀ e ∈ o.after, e.on < i)
    (hst : ∀ i v w w', Below w0.heap.size w0 w → Below w.heap.size w w' → Pr i v w → Pr i v w')
    (hop : ∀ i o a w, ops[i]? = some o → Mid ops Pr a0 w0 a w → (∀ e ∈ o.after, Region.binds .any e = true → Done ops Pr e.on a w) →
      Region.wanted o (yielded ops a.tmps) = true ∧ o.wp P a w (fun a' w' => ∃ v, a' = a.put o.dst v ∧ Pr i v w' ∧ Below w.heap.size w w') Q)
    (hend : ∀ a w, Mid ops Pr a0 w0 a w → (∀ i, i < ops.size → Done ops Pr i a w) → Q .normal a w) :
    ∀ (fuel : Nat) (listed : Array Bool) (a : Act) (w : World), listed.size = ops.size → listed.toList.count false ≤ fuel → Mid ops Pr a0 w0 a w → (∀ i, listed.getD i false = true → Done ops Pr i a w) → wpAny P .any ops Q fuel listed a w := by
  intro fuel
  induction fuel with
  | zero =>
    intro listed a w hs hc hM hD
    have hall : ∀ i, i < ops.size → listed.getD i false = true := by
      intro i hi
      cases h : listed.getD i false with
      | true => rfl
      | false =>
        exfalso
        have hi' : i < listed.size := by omega
        rw [Array.getD_eq_getD_getElem?, Array.getElem?_eq_getElem hi'] at h
        have : false ∈ listed.toList := by
          rw [← h]; simp
        have := List.count_pos_iff.2 this
        omega
    refine ⟨?_, hend a w hM fun i hi => hD i (hall i hi)⟩
    apply List.eq_nil_iff_forall_not_mem.2
    intro j hj
    rw [mem_ready] at hj
    obtain ⟨h1, o, ho, _⟩ := hj
    have hlt := (Array.getElem?_eq_some_iff.1 ho).1
    have h2 := hall j hlt
    have hi' : j < listed.size := by omega
    rw [Array.getD_eq_getD_getElem?, Array.getElem?_eq_getElem hi'] at h1 h2
    simp at h1 h2
    rw [h1] at h2; cases h2
  | succ fuel ih =>
    intro listed a w hs hc hM hD
    refine ⟨fun hr => hend a w hM fun i hi => hD i (all_listed hback hs hr i hi), fun i hi => ?_⟩
    rw [mem_ready] at hi
    obtain ⟨h1, o, ho, haf⟩ := hi
    have hlt' := (Array.getElem?_eq_some_iff.1 ho).1
    have hi' : i < listed.size := by omega
    obtain ⟨hw, hwp⟩ := hop i o a w ho hM fun e he hb => hD e.on (haf e he hb)
    unfold wpOp
    rw [ho]
    simp only [hw, if_true]
    refine .inl (Oper.wp_mono ?_ hwp)
    rintro a' w' ⟨v, rfl, hv, hbl⟩
    have hbl0 : Below w0.heap.size w0 w' := hM.below.trans (hbl.mono hM.below.size)
    refine ih _ _ _ (by simpa using hs) ?_ ⟨?_, ?_, hbl0, ?_⟩ ?_
    · have hf : listed.toList[i]'(by simpa using hi') = false := by
        rw [Array.getD_eq_getD_getElem?, Array.getElem?_eq_getElem hi'] at h1
        simpa using h1
      have : (listed.setIfInBounds i true).toList = listed.toList.set i true := by simp
      rw [this, List.count_set (by simpa using hi'), hf]
      have hpos : 0 < listed.toList.count false := List.count_pos_iff.2 (by rw [← hf]; exact List.getElem_mem _)
      have e1 : ((false == false) = true) := rfl
      have e2 : ¬ ((true == false) = true) := by decide
      rw [if_pos e1, if_neg e2]
      omega
    · rw [put_size]; exact hM.tmps
    · rw [put_defers']; exact hM.defers
    · intro s hsd
      rw [put_getD_ne (fun e => hsd (mem_dsts ho e))]
      exact hM.other s hsd
    · intro j hj
      by_cases hji : j = i
      · subst hji
        intro o' d ho' hd
        obtain rfl : o' = o := Option.some.inj (ho'.symm.trans ho)
        rw [hd, put_getD_eq (by rw [hM.tmps]; exact hlt d (mem_dsts ho hd))]
        exact hv
      · have hj2 : listed.getD j false = true := by
          rw [Array.getD_eq_getD_getElem?, Array.getElem?_setIfInBounds] at hj
          have : ¬ i = j := fun e => hji e.symm
          simp only [this, if_false] at hj
          rw [Array.getD_eq_getD_getElem?]
          exact hj
        intro o' d ho' hd
        rw [put_getD_ne (fun e => hji (dst_inj hnd ho' ho hd e))]
        exact hst j _ w w' hM.below hbl (hD j hj2 o' d ho' hd)

/-- The region's operations: each writes a slot of its own below N, and waits for earlier ones alone. -/
def regionOk (ops : Array Oper) (N : Nat) : Bool :=
  decide (dsts ops).Nodup && (dsts ops).all (fun d => decide (d < N)) && (List.range ops.size).all fun i => ((ops[i]?).map fun o => o.after.all fun e => decide (e.on < i)).getD true
theorem regionOk_back {N : Nat} (h : regionOk ops N = true) (i : Nat) (o : Oper) (ho : ops[i]? = some o) : ∀ e ∈ o.after, e.on < i := by
  simp only [regionOk, Bool.and_eq_true] at h
  have hlt := (Array.getElem?_eq_some_iff.1 ho).1
  have := (List.all_eq_true.1 h.2) i (by rw [List.mem_range]; exact hlt)
  rw [ho] at this
  intro e he
  simp only [Option.map_some, Option.getD_some] at this
  have h2 := (Array.all_eq_true_iff_forall_mem.1 this) e he
  simpa using h2

/-- An operation that ends with the value v, in the world w'. -/
theorem mid_step {o : Oper} {a : Act} {w : World} {K0 : Act → World → Prop} (v : Value) (w' : World) (h : ∀ K : Act → World → Prop, K (a.put o.dst v) w' → o.wp P a w K Q) (hK : K0 (a.put o.dst v) w') : o.wp P a w K0 Q := h K0 hK

/-- An operation that ends with some value, in some world, of which R holds. -/
theorem mid_call {o : Oper} {a : Act} {w : World} {K0 : Act → World → Prop} (R : Value → World → Prop) (h : ∀ K : Act → World → Prop, (∀ v w', R v w' → K (a.put o.dst v) w') → o.wp P a w K Q) (hK : ∀ v w', R v w' → K0 (a.put o.dst v) w') : o.wp P a w K0 Q := h K0 hK

theorem below_drew1 (w : World) : Below w.heap.size w { w with drawn := w.drawn + 1 } := ⟨rfl, rfl, rfl, Nat.le_refl _, fun _ _ => rfl⟩

/-- A REGION THAT DRAWS ITS ORDER, BY WHAT HOLDS OF EACH OPERATION'S VALUE. -/
theorem wp_region_mid {id N : Nat} (Pr : Nat → Value → World → Prop) (hm : P.follows .mixedOrders = true) (hok : regionOk ops N = true) (hN : a0.tmps.size = N)
    (hst : ∀ i v w w', Below w0.heap.size w0 w → Below w.heap.size w w' → Pr i v w → Pr i v w')
    (hop : ∀ i o a w, ops[i]? = some o → Mid ops Pr a0 w0 a w → (∀ j, (o.after.any fun e => e.on == j && Region.binds .any e) = true → Done ops Pr j a w) →
      Region.wanted o (yielded ops a.tmps) = true ∧ o.wp P a w (fun a' w' => ∃ v, a' = a.put o.dst v ∧ Pr i v w' ∧ Below w.heap.size w w') Q)
    (hend : ∀ a w, Mid ops Pr a0 w0 a w → (∀ i, i < ops.size → Done ops Pr i a w) → Q .normal a w) :
    (Code.region id ops true).wp P Q a0 w0 := by
  have hok' := hok
  simp only [regionOk, Bool.and_eq_true, decide_eq_true_eq] at hok'
  refine wp_region_any hm (wpAny_mid hok'.1.1 (fun d hd => by rw [hN]; simpa using (List.all_eq_true.1 hok'.1.2) d hd) (regionOk_back hok) hst (fun i o a w ho hM hD => hop i o a w ho hM fun j hj => ?_) hend _ _ _ _ (by simp) ?_ ⟨rfl, rfl, below_drew1 w0, fun _ _ => rfl⟩ ?_)
  · rw [← Array.any_toList, List.any_eq_true] at hj
    obtain ⟨e, he, hj⟩ := hj
    have he := Array.mem_toList_iff.1 he
    simp only [Bool.and_eq_true, beq_iff_eq] at hj
    rw [← hj.1]
    exact hD e he hj.2
  · simp
  · intro i hi
    exfalso
    rw [Array.getD_eq_getD_getElem?, Array.getElem?_replicate] at hi
    split at hi <;> simp at hi
end

end Go.Proofs.YtedglcbeheeonaaDoor

namespace Go.Proofs.YtedglcbeheeonaaDoor
open Go Go.RowKit
set_option linter.unusedVariables false

section
variable {R : World → World → Prop} {P : Program} {ops : Array Oper} {Q : Exit → Act → World → Prop} {Pr : Nat → Value → World → Prop} {a0 : Act} {w0 : World}

/-- In the middle of a region one of whose operations, that at j, may write a row. -/
structure MidJ (R : World → World → Prop) (ops : Array Oper) (a0 : Act) (w0 : World) (a : Act) (w : World) : Prop where
  tmps : a.tmps.size = a0.tmps.size
  defers : a.defers = a0.defers
  rel : R w0 w
  other : ∀ s, s ∉ dsts ops → a.tmps.getD s undef = a0.tmps.getD s undef

theorem wpAny_midJ (j : Nat) (htr : ∀ {a b c : World}, R a b → R b c → R a c) (hbr : ∀ {a b : World}, Below a.heap.size a b → R a b)
    (hlate : ∀ (i : Nat) (o : Oper), ops[i]? = some o → j < i → ∃ e ∈ o.after, Region.binds .any e = true ∧ e.on = j)
    (hnd : (dsts ops).Nodup) (hlt : ∀ d ∈ dsts ops, d < a0.tmps.size) (hback : ∀ (i : Nat) (o : Oper), ops[i]? = some o → ∀ e ∈ o.after, e.on < i)
    (hstB : ∀ i v w w', R w0 w → Below w.heap.size w w' → Pr i v w → Pr i v w')
    (hstR : ∀ i v w w', i < j → R w0 w → R w w' → Pr i v w → Pr i v w')
    (hop : ∀ i o a w, ops[i]? = some o → MidJ R ops a0 w0 a w → (i = j → Below w0.heap.size w0 w) → (∀ (k : Nat) (o' : Oper) (d : Tmp), ops[k]? = some o' → o'.dst = some d → (∃ e ∈ o'.after, Region.binds .any e = true ∧ e.on = i) → a.tmps.getD d undef = a0.tmps.getD d undef) → (∀ e ∈ o.after, Region.binds .any e = true → Done ops Pr e.on a w) →
      Region.wanted o (yielded ops a.tmps) = true ∧ o.wp P a w (fun a' w' => ∃ v, a' = a.put o.dst v ∧ Pr i v w' ∧ (i = j → R w w') ∧ (i ≠ j → Below w.heap.size w w')) Q)
    (hend : ∀ a w, MidJ R ops a0 w0 a w → (∀ i, i < ops.size → Done ops Pr i a w) → Q .normal a w) :
    ∀ (fuel : Nat) (listed : Array Bool) (a : Act) (w : World), listed.size = ops.size → listed.toList.count false ≤ fuel → MidJ R ops a0 w0 a w → (listed.getD j false = false → Below w0.heap.size w0 w) → (∀ (i : Nat) (o : Oper), ops[i]? = some o → listed.getD i false = true → ∀ e ∈ o.after, Region.binds .any e = true → listed.getD e.on false = true) →
      (∀ (i : Nat) (o : Oper) (d : Tmp), ops[i]? = some o → o.dst = some d → listed.getD i false = false → a.tmps.getD d undef = a0.tmps.getD d undef) →
      (∀ i, listed.getD i false = true → Done ops Pr i a w) → wpAny P .any ops Q fuel listed a w := by
  intro fuel
  induction fuel with
  | zero =>
    intro listed a w hs hc hM hB hL hU hD
    have hall : ∀ i, i < ops.size → listed.getD i false = true := by
      intro i hi
      cases h : listed.getD i false with
      | true => rfl
      | false =>
        exfalso
        have hi' : i < listed.size := by omega
        rw [Array.getD_eq_getD_getElem?, Array.getElem?_eq_getElem hi'] at h
        have : false ∈ listed.toList := by
          rw [← h]; simp
        have := List.count_pos_iff.2 this
        omega
    refine ⟨?_, hend a w hM fun i hi => hD i (hall i hi)⟩
    apply List.eq_nil_iff_forall_not_mem.2
    intro j hj
    rw [mem_ready] at hj
    obtain ⟨h1, o, ho, _⟩ := hj
    have hlt := (Array.getElem?_eq_some_iff.1 ho).1
    have h2 := hall j hlt
    have hi' : j < listed.size := by omega
    rw [Array.getD_eq_getD_getElem?, Array.getElem?_eq_getElem hi'] at h1 h2
    simp at h1 h2
    rw [h1] at h2; cases h2
  | succ fuel ih =>
    intro listed a w hs hc hM hB hL hU hD
    refine ⟨fun hr => hend a w hM fun i hi => hD i (all_listed hback hs hr i hi), fun i hi => ?_⟩
    rw [mem_ready] at hi
    obtain ⟨h1, o, ho, haf⟩ := hi
    have hlt' := (Array.getElem?_eq_some_iff.1 ho).1
    have hi' : i < listed.size := by omega
    have h1f : listed.getD i false = false := by
      rw [Array.getD_eq_getD_getElem?, Array.getElem?_eq_getElem hi'] at h1 ⊢
      simpa using h1
    obtain ⟨hw, hwp⟩ := hop i o a w ho hM (fun e => hB (by rw [← e]; exact h1f)) (fun k o' d ho' hd ⟨e, he, hb, hei⟩ => hU k o' d ho' hd (by
      cases hlk : listed.getD k false with
      | false => rfl
      | true =>
        have := hL k o' ho' hlk e he hb
        rw [hei, h1f] at this
        cases this)) fun e he hb => hD e.on (haf e he hb)
    unfold wpOp
    rw [ho]
    simp only [hw, if_true]
    refine .inl (Oper.wp_mono ?_ hwp)
    rintro a' w' ⟨v, rfl, hv, hbl⟩
    have hR : R w w' := by
      by_cases hij : i = j
      · exact hbl.1 hij
      · exact hbr (hbl.2 hij)
    have hset : ∀ k, (listed.setIfInBounds i true).getD k false = if k = i then true else listed.getD k false := by
      intro k
      rw [Array.getD_eq_getD_getElem?, Array.getElem?_setIfInBounds, Array.getD_eq_getD_getElem?]
      by_cases hk : k = i
      · subst hk; simp [hi']
      · have : ¬ i = k := fun e => hk e.symm
        simp [hk, this]
    refine ih _ _ _ (by simpa using hs) ?_ ⟨?_, ?_, htr hM.rel hR, ?_⟩ ?_ ?_ ?_ ?_
    · have hf : listed.toList[i]'(by simpa using hi') = false := by
        rw [Array.getD_eq_getD_getElem?, Array.getElem?_eq_getElem hi'] at h1
        simpa using h1
      have : (listed.setIfInBounds i true).toList = listed.toList.set i true := by simp
      rw [this, List.count_set (by simpa using hi'), hf]
      have hpos : 0 < listed.toList.count false := List.count_pos_iff.2 (by rw [← hf]; exact List.getElem_mem _)
      have e1 : ((false == false) = true) := rfl
      have e2 : ¬ ((true == false) = true) := by decide
      rw [if_pos e1, if_neg e2]
      omega
    · rw [put_size]; exact hM.tmps
    · rw [put_defers']; exact hM.defers
    · intro s hsd
      rw [put_getD_ne (fun e => hsd (mem_dsts ho e))]
      exact hM.other s hsd
    · intro hf
      rw [hset] at hf
      by_cases hji : j = i
      · rw [if_pos hji] at hf; cases hf
      · rw [if_neg hji] at hf
        have hbl := hbl.2 (fun e => hji e.symm)
        have h0 := hB hf
        exact h0.trans (hbl.mono h0.size)
    · intro k o' ho' hk e he hb
      rw [hset] at hk ⊢
      by_cases hki : k = i
      · subst hki
        obtain rfl : o' = o := Option.some.inj (ho'.symm.trans ho)
        have := haf e he hb
        by_cases hei : e.on = k
        · rw [if_pos hei]
        · rw [if_neg hei]; exact this
      · rw [if_neg hki] at hk
        by_cases hei : e.on = i
        · rw [if_pos hei]
        · rw [if_neg hei]; exact hL k o' ho' hk e he hb
    · intro k o' d ho' hd hk
      rw [hset] at hk
      by_cases hki : k = i
      · rw [if_pos hki] at hk; cases hk
      · rw [if_neg hki] at hk
        rw [put_getD_ne (fun e => hki (dst_inj hnd ho' ho hd e))]
        exact hU k o' d ho' hd hk
    · intro k hk
      by_cases hki : k = i
      · subst hki
        intro o' d ho' hd
        obtain rfl : o' = o := Option.some.inj (ho'.symm.trans ho)
        rw [hd, put_getD_eq (by rw [hM.tmps]; exact hlt d (mem_dsts ho hd))]
        exact hv
      · have hk2 : listed.getD k false = true := by
          rw [hset, if_neg hki] at hk; exact hk
        intro o' d ho' hd
        rw [put_getD_ne (fun e => hki (dst_inj hnd ho' ho hd e))]
        have hp := hD k hk2 o' d ho' hd
        by_cases hij : i = j
        · have hlt2 : k < j := by
            rcases Nat.lt_or_ge k j with h | h
            · exact h
            · exfalso
              have hkj : j < k := by omega
              obtain ⟨e, he, hb, hej⟩ := hlate k o' ho' hkj
              have := hL k o' ho' hk2 e he hb
              rw [hej, ← hij, h1f] at this
              cases this
          exact hstR k _ w w' hlt2 hM.rel hR hp
        · exact hstB k _ w w' hM.rel (hbl.2 hij) hp

/-- Every operation behind j waits for it. -/
def lateOk (ops : Array Oper) (j : Nat) : Bool :=
  (List.range ops.size).all fun i => decide (i ≤ j) || ((ops[i]?).map fun o => o.after.toList.any fun e => Region.binds .any e && decide (e.on = j)).getD true
theorem lateOk_at {j : Nat} (h : lateOk ops j = true) (i : Nat) (o : Oper) (ho : ops[i]? = some o) (hji : j < i) : ∃ e ∈ o.after, Region.binds .any e = true ∧ e.on = j := by
  have hlt := (Array.getElem?_eq_some_iff.1 ho).1
  have h2 := (List.all_eq_true.1 h) i (by rw [List.mem_range]; exact hlt)
  rw [ho] at h2
  simp only [Option.map_some, Option.getD_some, Bool.or_eq_true, decide_eq_true_eq] at h2
  rcases h2 with h2 | h2
  · omega
  · obtain ⟨e, he, h3⟩ := List.any_eq_true.1 h2
    simp only [Bool.and_eq_true, decide_eq_true_eq] at h3
    exact ⟨e, Array.mem_toList_iff.1 he, h3.1, h3.2⟩

theorem any_edge {o : Oper} {k : Nat} (h : (o.after.any fun e => e.on == k && Region.binds .any e) = true) : ∃ e ∈ o.after, Region.binds .any e = true ∧ e.on = k := by
  rw [← Array.any_toList, List.any_eq_true] at h
  obtain ⟨e, he, hj⟩ := h
  have he := Array.mem_toList_iff.1 he
  simp only [Bool.and_eq_true, beq_iff_eq] at hj
  exact ⟨e, he, hj.2, hj.1⟩

/-- A REGION THAT DRAWS ITS ORDER, ONE OF WHOSE OPERATIONS WRITES. -/
theorem wp_region_midJ {id N : Nat} (j : Nat) (R : World → World → Prop) (Pr : Nat → Value → World → Prop) (htr : ∀ {a b c : World}, R a b → R b c → R a c) (hbr : ∀ {a b : World}, Below a.heap.size a b → R a b)
    (hm : P.follows .mixedOrders = true) (hok : regionOk ops N = true) (hlate : lateOk ops j = true) (hN : a0.tmps.size = N)
    (hstB : ∀ i v w w', R w0 w → Below w.heap.size w w' → Pr i v w → Pr i v w')
    (hstR : ∀ i v w w', i < j → R w0 w → R w w' → Pr i v w → Pr i v w')
    (hop : ∀ i o a w, ops[i]? = some o → MidJ R ops a0 w0 a w → (i = j → Below w0.heap.size w0 w) → (∀ (k : Nat) (o' : Oper) (d : Tmp), ops[k]? = some o' → o'.dst = some d → (o'.after.any fun e => e.on == i && Region.binds .any e) = true → a.tmps.getD d undef = a0.tmps.getD d undef) → (∀ k, (o.after.any fun e => e.on == k && Region.binds .any e) = true → Done ops Pr k a w) →
      Region.wanted o (yielded ops a.tmps) = true ∧ o.wp P a w (fun a' w' => ∃ v, a' = a.put o.dst v ∧ Pr i v w' ∧ (i = j → R w w') ∧ (i ≠ j → Below w.heap.size w w')) Q)
    (hend : ∀ a w, MidJ R ops a0 w0 a w → (∀ i, i < ops.size → Done ops Pr i a w) → Q .normal a w) :
    (Code.region id ops true).wp P Q a0 w0 := by
  have hok' := hok
  simp only [regionOk, Bool.and_eq_true, decide_eq_true_eq] at hok'
  refine wp_region_any hm (wpAny_midJ (R := R) (Pr := Pr) (a0 := a0) (w0 := w0) j (fun h k => htr h k) (fun h => hbr h) (lateOk_at hlate) hok'.1.1 (fun d hd => by rw [hN]; simpa using (List.all_eq_true.1 hok'.1.2) d hd) (regionOk_back hok) hstB hstR
    (fun i o a w ho hM hB hU hD => hop i o a w ho hM hB (fun k o' d ho' hd hk => hU k o' d ho' hd (any_edge hk)) fun j hj => ?_) hend _ _ a0 { w0 with drawn := w0.drawn + 1 } (by simp) ?_ (show MidJ R ops a0 w0 a0 { w0 with drawn := w0.drawn + 1 } from ⟨rfl, rfl, hbr (below_drew1 w0), fun _ _ => rfl⟩) (fun _ => below_drew1 w0) ?_ (fun _ _ _ _ _ _ => rfl) ?_)
  · obtain ⟨e, he, hb, hj⟩ := any_edge hj
    rw [← hj]
    exact hD e he hb
  · simp
  · intro i o ho hi
    exfalso
    rw [Array.getD_eq_getD_getElem?, Array.getElem?_replicate] at hi
    split at hi <;> simp at hi
  · intro i hi
    exfalso
    rw [Array.getD_eq_getD_getElem?, Array.getElem?_replicate] at hi
    split at hi <;> simp at hi
end

/-- The frame behind such a region, which fills the slots from s on, m of them, and slot p, written out. -/
theorem frame_two {t : Array Value} {l : List Value} {p s m : Nat} (hs : t.size = l.length) (hps : p < s) (hN : s + m ≤ l.length)
    (h : ∀ i, i < l.length → i ≠ p → (i < s ∨ s + m ≤ i) → t.getD i undef = l.toArray.getD i undef) :
    t = (l.take p ++ (t.getD p undef :: ((l.drop (p + 1)).take (s - (p + 1)) ++ ((List.range m).map (fun i => t.getD (s + i) undef) ++ l.drop (s + m))))).toArray := by
  apply Array.ext
  · simp; omega
  · intro i h1 h2
    have e : t[i] = t.getD i undef := by simp [Array.getD_eq_getD_getElem?, h1]
    have hl : i < l.length := by omega
    have e2 : l.toArray.getD i undef = l[i] := by simp [Array.getD_eq_getD_getElem?, hl]
    have e3 : ∀ (r : List Value) (h : i < r.toArray.size), r.toArray[i] = r.getD i undef := by
      intro r h
      have : i < r.length := by simpa using h
      simp [List.getD_eq_getElem?_getD, this]
    rw [e, e3]
    simp only [List.getD_eq_getElem?_getD]
    rcases Nat.lt_trichotomy i p with hp | rfl | hp
    · rw [h i hl (by omega) (.inl (by omega)), e2, List.getElem?_append_left (by simp; omega), List.getElem?_take_of_lt hp]
      simp [hl]
    · rw [List.getElem?_append_right (by simp; omega)]
      simp only [List.length_take]
      rw [show i - min i l.length = 0 by omega]
      simp
    · rw [List.getElem?_append_right (by simp; omega)]
      simp only [List.length_take]
      obtain ⟨j, hj⟩ : ∃ j, i - min p l.length = j + 1 := ⟨i - p - 1, by omega⟩
      rw [hj, List.getElem?_cons_succ]
      have hij : i = p + 1 + j := by omega
      by_cases hi1 : i < s
      · rw [h i hl (by omega) (.inl hi1), e2, List.getElem?_append_left (by simp; omega), List.getElem?_take_of_lt (by omega), List.getElem?_drop, ← hij]
        simp [hl]
      · rw [List.getElem?_append_right (by simp; omega)]
        simp only [List.length_take, List.length_drop]
        by_cases hi2 : i < s + m
        · rw [List.getElem?_append_left (by simp; omega), List.getElem?_map, List.getElem?_range (by omega)]
          simp only [Option.map_some, Option.getD_some]
          congr 1
          omega
        · rw [h i hl (by omega) (.inr (by omega)), e2, List.getElem?_append_right (by simp; omega)]
          simp only [List.length_map, List.length_range, List.getElem?_drop]
          rw [show s + m + (j - min (s - (p + 1)) (l.length - (p + 1)) - m) = i by omega]
          simp [hl]

theorem MidJ.frame {R : World → World → Prop} {ops : Array Oper} {a0 a : Act} {w0 w : World} (hM : MidJ R ops a0 w0 a w) (l : List Value) (p s m : Nat) (hl : a0.tmps = l.toArray) (hps : p < s) (hN : s + m ≤ l.length)
    (hd : ((List.range l.length).all fun i => i == p || (decide (s ≤ i) && decide (i < s + m)) || decide (i ∉ dsts ops)) = true) :
    a.tmps = (l.take p ++ (a.tmps.getD p undef :: ((l.drop (p + 1)).take (s - (p + 1)) ++ ((List.range m).map (fun i => a.tmps.getD (s + i) undef) ++ l.drop (s + m))))).toArray := by
  refine frame_two (by rw [hM.tmps, hl]; simp) hps hN fun i hi hp ho => ?_
  have := (List.all_eq_true.1 hd) i (List.mem_range.2 hi)
  rw [← hl]
  refine hM.other i ?_
  simp only [Bool.or_eq_true, Bool.and_eq_true, decide_eq_true_eq, beq_iff_eq] at this
  rcases this with (h | h) | h
  · exact absurd h hp
  · omega
  · exact h

end Go.Proofs.YtedglcbeheeonaaDoor

namespace Go.Proofs.YtedglcbeheeonaaDoor
open Go Go.RowKit
set_option linter.unusedVariables false

section
variable {R : World → World → Prop} {P : Program} {ops : Array Oper} {Q : Exit → Act → World → Prop} {Pr : Nat → Value → World → Prop} {a0 : Act} {w0 : World}

theorem wpIn_of_wp {l m : Nat} {o : Oper} {a : Act} {w : World} {K : Act → World → Prop} (hd : ∀ c, o.op ≠ .defer c) (h : o.wp P a w K Q) : o.wpIn (Fence.wide.inRound l) m P a w K Q := by
  unfold Oper.wpIn
  refine ⟨fun _ _ => trivial, ?_⟩
  rw [Oper.semAt_eq _ _ _ hd]
  unfold Oper.wp at h
  generalize (execOp a.eval o).run P w = r at *
  cases r with
  | ok x w' =>
    cases x <;> simp only [Oper.upon] at h <;> simp only [Oper.uponIn]
    case value => exact h
    case skip => exact h
    case defer => exact h
    case enter f args => exact ⟨fun hx => by simp [Fence.wide] at hx, CallsIn.inRound _ (callsIn_wide.2 h)⟩
    case row => exact ⟨fun hx => by simp [Fence.wide] at hx, fun c cs _ => let ⟨v, w', r, s⟩ := h c cs; ⟨v, w', r, stepsIn_wide.2 s⟩⟩
  | halt x w' => cases x <;> simp only [Oper.upon] at h <;> simp only [Oper.uponIn] <;> exact h

theorem wanted_b {o : Oper} {a : Act} {i d : Nat} {b : Bool} (hg : o.guard = some (i, b)) (hd : (ops[i]?).bind (·.dst) = some d) (hs : d < a.tmps.size) (he : a.tmps.getD d undef = .bool b) : Region.wanted o (yielded ops a.tmps) = true := by
  have : a.tmps[d]? = some (.bool b) := by
    rw [Array.getD_eq_getD_getElem?, Array.getElem?_eq_getElem hs] at he
    rw [Array.getElem?_eq_getElem hs]
    simpa using he
  simp [Region.wanted, hg, yielded, hd, this]

/-- An operation ahead of the j-th one, that writes nothing that was there. -/
theorem ahead_j {i j : Nat} {w w' : World} (h : i < j) (hb : Below w.heap.size w w') : (i < j → Below w.heap.size w w') ∧ (j ≤ i → R w w') := ⟨fun _ => hb, fun h2 => absurd h2 (by omega)⟩
theorem behind_j {i j : Nat} {w w' : World} (h : j ≤ i) (hb : R w w') : (i < j → Below w.heap.size w w') ∧ (j ≤ i → R w w') := ⟨fun h2 => absurd h2 (by omega), fun _ => hb⟩

/-- No operation defers. -/
def noDefer (ops : Array Oper) : Bool := ops.toList.all fun o => match o.op with | .defer _ => false | _ => true
theorem noDefer_at (h : noDefer ops = true) (i : Nat) (o : Oper) (ho : ops[i]? = some o) : ∀ c, o.op ≠ .defer c := by
  intro c e
  have := List.all_eq_true.1 h o (List.mem_of_getElem? (i := i) (by simpa using ho))
  rw [e] at this
  simp at this

theorem wpAnyIn_midJ {l m : Nat} (j : Nat) (htr : ∀ {a b c : World}, R a b → R b c → R a c) (hbr : ∀ {a b : World}, Below a.heap.size a b → R a b)
    (hlate : ∀ (i : Nat) (o : Oper), ops[i]? = some o → j < i → ∃ e ∈ o.after, Region.binds .any e = true ∧ e.on = j)
    (hnd : (dsts ops).Nodup) (hlt : ∀ d ∈ dsts ops, d < a0.tmps.size) (hback : ∀ (i : Nat) (o : Oper), ops[i]? = some o → ∀ e ∈ o.after, e.on < i)
    (hdf : ∀ (i : Nat) (o : Oper), ops[i]? = some o → ∀ c, o.op ≠ .defer c)
    (hstR : ∀ i v w w', R w0 w → R w w' → Pr i v w → Pr i v w')
    (hop : ∀ i o a w, ops[i]? = some o → MidJ R ops a0 w0 a w → (i = j → Below w0.heap.size w0 w) → (∀ (k : Nat) (o' : Oper) (d : Tmp), ops[k]? = some o' → o'.dst = some d → (∃ e ∈ o'.after, Region.binds .any e = true ∧ e.on = i) → a.tmps.getD d undef = a0.tmps.getD d undef) → (∀ e ∈ o.after, Region.binds .any e = true → Done ops Pr e.on a w) →
      Region.wanted o (yielded ops a.tmps) = true ∧ o.wp P a w (fun a' w' => ∃ v, a' = a.put o.dst v ∧ Pr i v w' ∧ (i < j → Below w.heap.size w w') ∧ (j ≤ i → R w w')) Q)
    (hend : ∀ a w, MidJ R ops a0 w0 a w → (∀ i, i < ops.size → Done ops Pr i a w) → Q .normal a w) :
    ∀ (fuel : Nat) (listed : Array Bool) (a : Act) (w : World), listed.size = ops.size → listed.toList.count false ≤ fuel → MidJ R ops a0 w0 a w → (listed.getD j false = false → Below w0.heap.size w0 w) → (∀ (i : Nat) (o : Oper), ops[i]? = some o → listed.getD i false = true → ∀ e ∈ o.after, Region.binds .any e = true → listed.getD e.on false = true) →
      (∀ (i : Nat) (o : Oper) (d : Tmp), ops[i]? = some o → o.dst = some d → listed.getD i false = false → a.tmps.getD d undef = a0.tmps.getD d undef) →
      (∀ i, listed.getD i false = true → Done ops Pr i a w) → wpAnyIn (Fence.wide.inRound l) m P .any ops Q fuel listed a w := by
  intro fuel
  induction fuel with
  | zero =>
    intro listed a w hs hc hM hB hL hU hD
    have hall : ∀ i, i < ops.size → listed.getD i false = true := by
      intro i hi
      cases h : listed.getD i false with
      | true => rfl
      | false =>
        exfalso
        have hi' : i < listed.size := by omega
        rw [Array.getD_eq_getD_getElem?, Array.getElem?_eq_getElem hi'] at h
        have : false ∈ listed.toList := by
          rw [← h]; simp
        have := List.count_pos_iff.2 this
        omega
    refine ⟨?_, hend a w hM fun i hi => hD i (hall i hi)⟩
    apply List.eq_nil_iff_forall_not_mem.2
    intro j hj
    rw [mem_ready] at hj
    obtain ⟨h1, o, ho, _⟩ := hj
    have hlt := (Array.getElem?_eq_some_iff.1 ho).1
    have h2 := hall j hlt
    have hi' : j < listed.size := by omega
    rw [Array.getD_eq_getD_getElem?, Array.getElem?_eq_getElem hi'] at h1 h2
    simp at h1 h2
    rw [h1] at h2; cases h2
  | succ fuel ih =>
    intro listed a w hs hc hM hB hL hU hD
    refine ⟨fun hr => hend a w hM fun i hi => hD i (all_listed hback hs hr i hi), fun i hi => ?_⟩
    rw [mem_ready] at hi
    obtain ⟨h1, o, ho, haf⟩ := hi
    have hlt' := (Array.getElem?_eq_some_iff.1 ho).1
    have hi' : i < listed.size := by omega
    have h1f : listed.getD i false = false := by
      rw [Array.getD_eq_getD_getElem?, Array.getElem?_eq_getElem hi'] at h1 ⊢
      simpa using h1
    obtain ⟨hw, hwp⟩ := hop i o a w ho hM (fun e => hB (by rw [← e]; exact h1f)) (fun k o' d ho' hd ⟨e, he, hb, hei⟩ => hU k o' d ho' hd (by
      cases hlk : listed.getD k false with
      | false => rfl
      | true =>
        have := hL k o' ho' hlk e he hb
        rw [hei, h1f] at this
        cases this)) fun e he hb => hD e.on (haf e he hb)
    unfold wpOpIn
    rw [ho]
    simp only [hw, if_true]
    refine Oper.wpIn_mono ?_ (wpIn_of_wp (hdf i o ho) hwp)
    rintro a' w' ⟨v, rfl, hv, hbl⟩
    have hR : R w w' := by
      by_cases hij : j ≤ i
      · exact hbl.2 hij
      · exact hbr (hbl.1 (by omega))
    have hset : ∀ k, (listed.setIfInBounds i true).getD k false = if k = i then true else listed.getD k false := by
      intro k
      rw [Array.getD_eq_getD_getElem?, Array.getElem?_setIfInBounds, Array.getD_eq_getD_getElem?]
      by_cases hk : k = i
      · subst hk; simp [hi']
      · have : ¬ i = k := fun e => hk e.symm
        simp [hk, this]
    refine ih _ _ _ (by simpa using hs) ?_ ⟨?_, ?_, htr hM.rel hR, ?_⟩ ?_ ?_ ?_ ?_
    · have hf : listed.toList[i]'(by simpa using hi') = false := by
        rw [Array.getD_eq_getD_getElem?, Array.getElem?_eq_getElem hi'] at h1
        simpa using h1
      have : (listed.setIfInBounds i true).toList = listed.toList.set i true := by simp
      rw [this, List.count_set (by simpa using hi'), hf]
      have hpos : 0 < listed.toList.count false := List.count_pos_iff.2 (by rw [← hf]; exact List.getElem_mem _)
      have e1 : ((false == false) = true) := rfl
      have e2 : ¬ ((true == false) = true) := by decide
      rw [if_pos e1, if_neg e2]
      omega
    · rw [put_size]; exact hM.tmps
    · rw [put_defers']; exact hM.defers
    · intro s hsd
      rw [put_getD_ne (fun e => hsd (mem_dsts ho e))]
      exact hM.other s hsd
    · intro hf
      rw [hset] at hf
      by_cases hji : j = i
      · rw [if_pos hji] at hf; cases hf
      · rw [if_neg hji] at hf
        have hij : i < j := by
          rcases Nat.lt_or_ge i j with h | h
          · exact h
          · exfalso
            obtain ⟨e, he, hb, hej⟩ := hlate i o ho (by omega)
            have := haf e he hb
            rw [hej, hf] at this
            cases this
        have hbl := hbl.1 hij
        have h0 := hB hf
        exact h0.trans (hbl.mono h0.size)
    · intro k o' ho' hk e he hb
      rw [hset] at hk ⊢
      by_cases hki : k = i
      · subst hki
        obtain rfl : o' = o := Option.some.inj (ho'.symm.trans ho)
        have := haf e he hb
        by_cases hei : e.on = k
        · rw [if_pos hei]
        · rw [if_neg hei]; exact this
      · rw [if_neg hki] at hk
        by_cases hei : e.on = i
        · rw [if_pos hei]
        · rw [if_neg hei]; exact hL k o' ho' hk e he hb
    · intro k o' d ho' hd hk
      rw [hset] at hk
      by_cases hki : k = i
      · rw [if_pos hki] at hk; cases hk
      · rw [if_neg hki] at hk
        rw [put_getD_ne (fun e => hki (dst_inj hnd ho' ho hd e))]
        exact hU k o' d ho' hd hk
    · intro k hk
      by_cases hki : k = i
      · subst hki
        intro o' d ho' hd
        obtain rfl : o' = o := Option.some.inj (ho'.symm.trans ho)
        rw [hd, put_getD_eq (by rw [hM.tmps]; exact hlt d (mem_dsts ho hd))]
        exact hv
      · have hk2 : listed.getD k false = true := by
          rw [hset, if_neg hki] at hk; exact hk
        intro o' d ho' hd
        rw [put_getD_ne (fun e => hki (dst_inj hnd ho' ho hd e))]
        have hp := hD k hk2 o' d ho' hd
        exact hstR k _ w w' hM.rel hR hp

/-- A REGION THAT DRAWS ITS ORDER, FROM ONE OF WHOSE OPERATIONS ON IT WRITES, IN A LOOP'S ROUND. -/
theorem wpIn_region_midJ {id N l m : Nat} (j : Nat) (R : World → World → Prop) (Pr : Nat → Value → World → Prop) (htr : ∀ {a b c : World}, R a b → R b c → R a c) (hbr : ∀ {a b : World}, Below a.heap.size a b → R a b)
    (hm : P.follows .mixedOrders = true) (hok : regionOk ops N = true) (hlate : lateOk ops j = true) (hN : a0.tmps.size = N)
    (hdf : noDefer ops = true)
    (hstR : ∀ i v w w', R w0 w → R w w' → Pr i v w → Pr i v w')
    (hop : ∀ i o a w, ops[i]? = some o → MidJ R ops a0 w0 a w → (i = j → Below w0.heap.size w0 w) → (∀ (k : Nat) (o' : Oper) (d : Tmp), ops[k]? = some o' → o'.dst = some d → (o'.after.any fun e => e.on == i && Region.binds .any e) = true → a.tmps.getD d undef = a0.tmps.getD d undef) → (∀ k, (o.after.any fun e => e.on == k && Region.binds .any e) = true → Done ops Pr k a w) →
      Region.wanted o (yielded ops a.tmps) = true ∧ o.wp P a w (fun a' w' => ∃ v, a' = a.put o.dst v ∧ Pr i v w' ∧ (i < j → Below w.heap.size w w') ∧ (j ≤ i → R w w')) Q)
    (hend : ∀ a w, MidJ R ops a0 w0 a w → (∀ i, i < ops.size → Done ops Pr i a w) → Q .normal a w) :
    (Code.region id ops true).wpIn (Fence.wide.inRound l) m P Q a0 w0 := by
  have hok' := hok
  simp only [regionOk, Bool.and_eq_true, decide_eq_true_eq] at hok'
  refine wpIn_region_any hm (wpAnyIn_midJ (R := R) (Pr := Pr) (a0 := a0) (w0 := w0) j (fun h k => htr h k) (fun h => hbr h) (lateOk_at hlate) hok'.1.1 (fun d hd => by rw [hN]; simpa using (List.all_eq_true.1 hok'.1.2) d hd) (regionOk_back hok) (noDefer_at hdf) hstR
    (fun i o a w ho hM hB hU hD => hop i o a w ho hM hB (fun k o' d ho' hd hk => hU k o' d ho' hd (any_edge hk)) fun j hj => ?_) hend _ _ a0 { w0 with drawn := w0.drawn + 1 } (by simp) ?_ (show MidJ R ops a0 w0 a0 { w0 with drawn := w0.drawn + 1 } from ⟨rfl, rfl, hbr (below_drew1 w0), fun _ _ => rfl⟩) (fun _ => below_drew1 w0) ?_ (fun _ _ _ _ _ _ => rfl) ?_)
  · obtain ⟨e, he, hb, hj⟩ := any_edge hj
    rw [← hj]
    exact hD e he hb
  · simp
  · intro i o ho hi
    exfalso
    rw [Array.getD_eq_getD_getElem?, Array.getElem?_replicate] at hi
    split at hi <;> simp at hi
  · intro i hi
    exfalso
    rw [Array.getD_eq_getD_getElem?, Array.getElem?_replicate] at hi
    split at hi <;> simp at hi
end

end Go.Proofs.YtedglcbeheeonaaDoor

namespace Go.Proofs.YtedglcbeheeonaaDoor
open Go Go.RowKit Go.Shelf
set_option linter.unusedVariables false

attribute [local go_sem] Oper.semAt_some

theorem size_pd (wx : World) : ((sizeOf 71).run Tryd.prog wx) = .ok 4 wx := by
  obtain ⟨i0, hi, hz0, hz1, hz2⟩ := info_parts Tryd.info71
  simp [sizeOf, typeInfo, hi, hz1]
theorem elem_pd : Tryd.prog.elem 40 = 71 := by kernel_rfl

/-- want[k:k+1] -/
theorem slice_pd {w : World} {B n c j k : Nat} {A : Option Addr} {xs : List Value} (h : Rd w B 4 A n xs) (hj : j ≤ k) (hk : k ≤ n) (hn : n ≤ c) (hc : c ≤ 9223372036854775807) :
    ∃ A2, (∀ wx, (Instr.slice 40 (.slice A n c) (some (.int .i64 (j : Int))) (some (.int .i64 (k : Int))) none).run Tryd.prog wx = .ok (.slice A2 (k - j) (c - j)) wx) ∧ Rd w B 4 A2 (k - j) ((xs.take (k * 4)).drop (j * 4)) := by
  have r := (h.take hk).cut (cap := c) (k := j) hj (by omega)
  refine ⟨_, ?_, r⟩
  intro wx
  rw [run_slice_lh wx 40 A n c (by rw [elem_pd]; exact Tryd.underlying40) .i64 .i64 j k (by omega) (by omega) (by omega), elem_pd, size_pd]
  simp [sliced, Result.andThen]

theorem pd_part {ds : List Dv} {i : Nat} {d : Dv} (h : ds[i]? = some d) : ((pdCells ds).take ((i + 1) * 4)).drop (i * 4) = pdCells [d] := by
  apply List.ext_getElem?
  intro j
  rw [List.getElem?_drop, List.getElem?_take]
  by_cases hj : j < 4
  · rw [if_pos (by omega), pdCells_at ds i j d h hj]
    have := pdCells_at [d] 0 j d rfl hj
    simpa using this.symm
  · rw [if_neg (by omega), List.getElem?_eq_none (by rw [pdCells_length]; simp; omega)]

/-- told's seven boxes. -/
structure ToB (w : World) (aw : Value) (t0 r most k : Int) (ok res : Bool) (W : World) : Prop where
  b0 : W.heap[w.heap.size]? = some (.cells #[aw] 40 (0, 0))
  b1 : W.heap[w.heap.size + 1]? = some (.cells #[.int .i64 t0] 3 (0, 0))
  b2 : W.heap[w.heap.size + 2]? = some (.cells #[.int .i64 r] 41 (0, 0))
  b3 : W.heap[w.heap.size + 3]? = some (.cells #[.int .i64 most] 3 (0, 0))
  b4 : W.heap[w.heap.size + 4]? = some (.cells #[.bool res] 4 (0, 0))
  b5 : W.heap[w.heap.size + 5]? = some (.cells #[.int .i64 k] 3 (0, 0))
  b6 : W.heap[w.heap.size + 6]? = some (.cells #[.bool ok] 4 (0, 0))
  b : Below w.heap.size w W
section
variable {w X Y : World} {aw : Value} {t0 r most k : Int} {ok res : Bool}
theorem ToB.size (h : ToB w aw t0 r most k ok res X) : w.heap.size + 6 < X.heap.size := (Array.getElem?_eq_some_iff.1 h.b6).1
theorem ToB.keep (h : ToB w aw t0 r most k ok res X) (hk : ∀ i, w.heap.size ≤ i → i < w.heap.size + 7 → Y.heap[i]? = X.heap[i]?) (hb : Below w.heap.size w Y) : ToB w aw t0 r most k ok res Y :=
  ⟨(hk _ (by omega) (by omega)).trans h.b0, (hk _ (by omega) (by omega)).trans h.b1, (hk _ (by omega) (by omega)).trans h.b2, (hk _ (by omega) (by omega)).trans h.b3, (hk _ (by omega) (by omega)).trans h.b4, (hk _ (by omega) (by omega)).trans h.b5, (hk _ (by omega) (by omega)).trans h.b6, hb⟩
theorem ToB.grown (h : ToB w aw t0 r most k ok res X) {row : Nat} (hr : w.heap.size + 7 ≤ row) (hg : X.grownBy Y (some row)) : ToB w aw t0 r most k ok res Y :=
  h.keep (fun i _ hi => hg.block i (by have := h.size; omega) (fun e => by injection e with e; omega)) (h.b.grown hg h.b.size (fun i hi => by injection hi with hi; omega))
theorem ToB.below (h : ToB w aw t0 r most k ok res X) (hb : Below X.heap.size X Y) : ToB w aw t0 r most k ok res Y :=
  h.keep (fun i _ hi => hb.block i (by have := h.size; omega)) (h.b.trans (hb.mono h.b.size))
theorem ToB.like (h : ToB w aw t0 r most k ok res X) (e1 : Y.os = X.os) (e2 : Y.tape = X.tape) (e3 : Y.output = X.output) (e4 : Y.heap = X.heap) : ToB w aw t0 r most k ok res Y :=
  h.keep (fun _ _ _ => by rw [e4]) (below_like h.b e1 e2 e3 e4)
theorem ToB.set4 (h : ToB w aw t0 r most k ok res X) (v : Bool) : ToB w aw t0 r most k ok v (X.setCell ⟨w.heap.size + 4, 0, none⟩ (.bool v)) := by
  have hg := grown_set X (w.heap.size + 4) 0 (.bool v)
  have hs := h.size
  have q : ∀ {i : Nat} {o : Obj}, i ≠ w.heap.size + 4 → i < X.heap.size → X.heap[i]? = some o → (X.setCell ⟨w.heap.size + 4, 0, none⟩ (.bool v)).heap[i]? = some o := fun h1 h2 h3 => (hg.block _ h2 (fun e => by injection e with e; omega)).trans h3
  exact ⟨q (by omega) (by omega) h.b0, q (by omega) (by omega) h.b1, q (by omega) (by omega) h.b2, q (by omega) (by omega) h.b3, Joins.block_setCell h.b4 _, q (by omega) (by omega) h.b5, q (by omega) (by omega) h.b6, h.b.grown hg h.b.size (fun i hi => by injection hi with hi; omega)⟩
theorem ToB.set5 (h : ToB w aw t0 r most k ok res X) (v : Int) : ToB w aw t0 r most v ok res (X.setCell ⟨w.heap.size + 5, 0, none⟩ (.int .i64 v)) := by
  have hg := grown_set X (w.heap.size + 5) 0 (.int .i64 v)
  have hs := h.size
  have q : ∀ {i : Nat} {o : Obj}, i ≠ w.heap.size + 5 → i < X.heap.size → X.heap[i]? = some o → (X.setCell ⟨w.heap.size + 5, 0, none⟩ (.int .i64 v)).heap[i]? = some o := fun h1 h2 h3 => (hg.block _ h2 (fun e => by injection e with e; omega)).trans h3
  exact ⟨q (by omega) (by omega) h.b0, q (by omega) (by omega) h.b1, q (by omega) (by omega) h.b2, q (by omega) (by omega) h.b3, q (by omega) (by omega) h.b4, Joins.block_setCell h.b5 _, q (by omega) (by omega) h.b6, h.b.grown hg h.b.size (fun i hi => by injection hi with hi; omega)⟩
theorem ToB.set6 (h : ToB w aw t0 r most k ok res X) (v : Bool) : ToB w aw t0 r most k v res (X.setCell ⟨w.heap.size + 6, 0, none⟩ (.bool v)) := by
  have hg := grown_set X (w.heap.size + 6) 0 (.bool v)
  have hs := h.size
  have q : ∀ {i : Nat} {o : Obj}, i ≠ w.heap.size + 6 → i < X.heap.size → X.heap[i]? = some o → (X.setCell ⟨w.heap.size + 6, 0, none⟩ (.bool v)).heap[i]? = some o := fun h1 h2 h3 => (hg.block _ h2 (fun e => by injection e with e; omega)).trans h3
  exact ⟨q (by omega) (by omega) h.b0, q (by omega) (by omega) h.b1, q (by omega) (by omega) h.b2, q (by omega) (by omega) h.b3, q (by omega) (by omega) h.b4, q (by omega) (by omega) h.b5, Joins.block_setCell h.b6 _, h.b.grown hg h.b.size (fun i hi => by injection hi with hi; omega)⟩
end

theorem allocs_get : ∀ (os : List Obj) (w : World) (i : Nat) (o : Obj), os[i]? = some o → (os.foldl World.alloc w).heap[w.heap.size + i]? = some o
  | [], _, _, _, h => by simp at h
  | x :: os, w, i, o, h => by
    rw [List.foldl_cons]
    cases i with
    | zero =>
      simp at h
      subst h
      have : ∀ (os : List Obj) (X : World) (k : Nat) (o : Obj), X.heap[k]? = some o → (os.foldl World.alloc X).heap[k]? = some o := by
        intro os
        induction os with
        | nil => intro X k o h; exact h
        | cons y os ih => intro X k o h; exact ih _ _ _ ((heap_alloc_old X y (Array.getElem?_eq_some_iff.1 h).1).trans h)
      exact this os _ _ _ (heap_alloc_new w x)
    | succ i =>
      have := allocs_get os (w.alloc x) i o (by simpa using h)
      rw [World.size_alloc] at this
      rw [← this]; congr 1; omega
theorem allocs_below : ∀ (os : List Obj) (w : World), Below w.heap.size w (os.foldl World.alloc w) ∧ (os.foldl World.alloc w).heap.size = w.heap.size + os.length
  | [], w => ⟨Below.refl _ _, rfl⟩
  | x :: os, w => by
    obtain ⟨h1, h2⟩ := allocs_below os (w.alloc x)
    rw [List.foldl_cons]
    rw [World.size_alloc] at h1 h2
    exact ⟨(below_new w x).trans (h1.mono (by omega)), by rw [h2]; simp; omega⟩

/-- What may have been told when the next one comes. -/
theorem Part.next {l : List Nat} {pre : List Ev} {x : Ev} {ds : List Dv} {t0 r : Nat} (h : Part l (pre ++ [x])) (hs : splitS l = (ds, t0, r)) :
    (x.r = 0 ∧ pre.length < ds.length ∧ ds[pre.length]? = some x.abs) ∨ (r ≠ 0 ∧ x = Ev.bad t0 r ∧ pre.length = ds.length) := by
  rcases h with ⟨h1, a, ha⟩ | ⟨gs, e, r', h1, h2, h3, h4⟩
  · left
    obtain ⟨rest, e, hp⟩ := ha.pre
    rw [hs] at hp
    injection hp with hp _
    rw [List.map_append, List.append_assoc] at hp
    refine ⟨h1 x (by simp), ?_, ?_⟩
    · rw [hp]; simp
    · rw [hp, List.getElem?_append_right (by simp)]; simp
  · right
    obtain ⟨rfl, h5⟩ := List.append_inj' h2 rfl
    rw [hs] at h4
    injection h4 with h4 h6
    injection h6 with h6 h7
    subst h6 h7
    refine ⟨h1, by simpa using h5, by rw [h4]; simp⟩

end Go.Proofs.YtedglcbeheeonaaDoor

namespace Go.Proofs.YtedglcbeheeonaaDoor
open Go Go.RowKit Go.Shelf
set_option linter.unusedVariables false

attribute [local go_sem] Oper.semAt_some

def ToI (w : World) (aw : Value) (t0 r most : Int) (pre : List Ev) (W : World) : Prop := ToB w aw t0 r most (pre.length : Int) true false W
def ToX (w : World) (aw : Value) (t0 r most : Int) (cc : Code) (pre : List Ev) (W : World) : Prop := cc = .ret ∧ ∃ k, ToB w aw t0 r most k true true W

/-- What holds of the values of the region that asks of a frame. -/
def tPr (S n : Nat) (aw aw2 : Value) (x : Ev) (i : Nat) (v : Value) (w : World) : Prop :=
  match i with
  | 0 => v = .bool true
  | 1 => v = .bool true
  | 2 => v = .int .i64 0
  | 3 => v = .bool true
  | 4 => v = .bool true
  | 5 => v = .bool true
  | 6 => v = .agg #[.int .u8 (x.k : Int), .slice x.A x.p.length x.c, .int .i64 (x.f : Int), .int .i64 (x.t : Int)]
  | 7 => ∃ g, v = .slice (some ⟨g, 0, none⟩) 1 1 ∧ S ≤ g ∧ w.heap[g]? = some (.cells #[.int .u8 (x.k : Int), .slice x.A x.p.length x.c, .int .i64 (x.f : Int), .int .i64 (x.t : Int)] 59 (0, 0))
  | 8 => v = aw
  | 9 => v = .int .i64 n
  | 10 => v = .int .i64 n
  | 11 => v = .int .i64 ((n : Int) + 1)
  | 12 => v = aw2
  | 13 => v = .bool true
  | 14 => v = .bool true
  | _ => True
theorem same_set {xs : List Ev} {X : World} {g : Nat} {v : Value} {T : TypeId} (h : X.heap[g]? = some (.cells #[v] T (0, 0))) : PB xs X (X.setCell ⟨g, 0, none⟩ v) := by
  have hg := grown_set X g 0 v
  refine ⟨hg.os, hg.tape, hg.output, hg.size, fun k hk _ => ?_⟩
  by_cases e : k = g
  · subst e
    rw [h, Joins.block_setCell h]
    rfl
  · exact hg.block k hk (fun e2 => by injection e2 with e2; exact e e2)
theorem tPr_keep {S n : Nat} {aw aw2 : Value} {x : Ev} {X Y : World} (hx : ∀ g, x.sl.ownBlock = some g → g < S) (h : PB [x] X Y) : ∀ i v, tPr S n aw aw2 x i v X → tPr S n aw aw2 x i v Y := by
  intro i v hv
  unfold tPr at hv ⊢
  split at hv <;> first | exact hv | skip
  obtain ⟨g, e, hg, hb⟩ := hv
  refine ⟨g, e, hg, (h.blk g (Array.getElem?_eq_some_iff.1 hb).1 fun y hy e => ?_).trans hb⟩
  obtain rfl : y = x := by simpa using hy
  have := hx g e
  omega

/-- At told's end. -/
theorem told_fin {w X : World} {aw : Value} {t0 r most k : Int} {H : Nat} (hH : w.heap.size + 7 ≤ H) (h : ToB w aw t0 r most k true true X) (hD : X.heap[H]? = some (.deferred (some []))) :
    ∀ tmps : Array Value, tmps.getD 10 undef = .pointer (some ⟨w.heap.size + 4, 0, none⟩) →
      bodyPostM Fence.wide 3 Tryd.prog Tryd.f23 (fun e w' => e = .returned (.bool true) ∧ Below w.heap.size w w') .ret { tmps := tmps, defers := [{ target := .collected H, args := #[] }] } X := by
  intro tmps t2
  rw [Array.getD_eq_getD_getElem?] at t2
  have hg := grownBy_putObj' X H (.deferred none)
  have h2 := h.grown hH hg
  have c2 := cell_of_row _ (w.heap.size + 4) 0 _ _ _ h2.b4
  have hb2 := h2.b
  refine ⟨by simp, .inl ⟨_, _, rfl, run_takeDeferred hD, ?_⟩⟩
  generalize X.putObj H (.deferred none) = Y at *
  exact ⟨.bool true, by simp [results, Tryd.results23, go_sem, t2, c2], rfl, hb2⟩

set_option maxRecDepth 100000 in
set_option maxHeartbeats 4000000 in
theorem told_any (B : Nat) (Ax : Option Addr) (cx : Nat) (l : List Nat) (Aw : Option Addr) (cw : Nat) (ds : List Dv) (t0 r : Nat) (most : Int) (w : World) (hT : Tab w) (hr : Rd w w.heap.size 1 Ax l.length (bs l)) (hA : ∀ ad, Ax = some ad → ad.block < w.heap.size) (hb8 : ∀ x ∈ l, x < 256)
    (hcx : l.length ≤ cx ∧ cx ≤ 9223372036854775807) (hn : l.length ≤ 1000000) (hw : Rd w B 4 Aw ds.length (pdCells ds)) (hB : B ≤ w.heap.size) (hcw : ds.length ≤ cw ∧ cw ≤ 9223372036854775807) (hs : splitS l = (ds, t0, r)) :
    Calls Tryd.prog 23 #[.func (.func 32) #[.agg #[.slice Ax l.length cx, .int .i64 0]] #[], .slice Aw ds.length cw, .int .i64 (t0 : Int), .int .i64 (r : Int), .int .i64 most] w fun e w' => e = .returned (.bool true) ∧ Below w.heap.size w w' := by
  have hdl : ds.length ≤ l.length + 1 := by
    have := evs_len l (l.length + 1) 0
    rw [show evs l (l.length + 1) 0 = splitS l from rfl, hs] at this
    exact this
  let os : List Obj := [.cells #[.slice Aw ds.length cw] 40, .cells #[.int .i64 (t0 : Int)] 3, .cells #[.int .i64 (r : Int)] 41, .cells #[.int .i64 most] 3, .cells #[.bool false] 4, .cells #[.int .i64 0] 3, .cells #[.bool true] 4]
  obtain ⟨W7, hW7⟩ : ∃ W7, W7 = os.foldl World.alloc w := ⟨_, rfl⟩
  obtain ⟨hb7, hs7⟩ := allocs_below os w
  rw [← hW7] at hb7 hs7
  replace hs7 : W7.heap.size = w.heap.size + 7 := hs7
  have hI7 : ToI w (.slice Aw ds.length cw) t0 r most [] W7 := by
    have g := fun i o h => allocs_get os w i o h
    rw [← hW7] at g
    exact ⟨g 0 _ rfl, g 1 _ rfl, g 2 _ rfl, g 3 _ rfl, g 4 _ rfl, g 5 _ rfl, g 6 _ rfl, hb7⟩
  have hT7 := hT.below hb7 hT.1
  have hr7 : Rd W7 W7.heap.size 1 Ax l.length (bs l) := (hr.below hb7).more hb7.size
  have hA7 : ∀ ad, Ax = some ad → ad.block < W7.heap.size := fun ad e => Nat.lt_of_lt_of_le (hA ad e) hb7.size
  simp only [os, List.foldl_cons, List.foldl_nil] at hW7
  have nf : ∀ wx, (binOp .eql 44 (.func (.func 32) #[.agg #[.slice Ax l.length cx, .int .i64 0]] #[]) .nilFunc).run Tryd.prog wx = .ok (.bool false) wx := fun wx => by kernel_rfl
  have HW7 := Lib_hid hW7
  have HS := Lib_hid hs
  have HWD := Lib_hid hw
  have HBS := Lib_hid hs7
  clear hW7 hs hw
  refine (callsIn_wide (n := 3)).1 (callsIn_of_wp_marks Tryd.func23 rfl trivial ?_ rfl)
  simp only [Tryd.ntmps23, List.size_toArray, List.length_cons, List.length_nil, Nat.reduceAdd, Nat.reduceSub, Array.replicate_succ, Array.replicate_zero, List.push_toArray, List.append_toArray, List.nil_append, List.cons_append]
  gi_wp2
  rw [← (show W7 = _ from HW7.out)]
  refine range_tell (m := 3) rfl rfl hT7 hr7 hA7 hb8 hcx (by omega) (ToI w (.slice Aw ds.length cw) t0 r most) (ToX w (.slice Aw ds.length cw) t0 r most) (fun s X Y r h g1 g2 hg => h.grown (by rw [HBS.out] at g1; omega) hg) (fun cc s X Y r h g1 g2 hg => ⟨h.1, let ⟨k, h2⟩ := h.2; ⟨k, h2.grown (by rw [HBS.out] at g1; omega) hg⟩⟩)
    hI7 ?round ?done ?stop
  case round =>
    intro pre x W0 W hI0 hgr hlt hox hpt
    have hI : ToI w (.slice Aw ds.length cw) t0 r most pre W := hI0.grown (by rw [HBS.out]; omega) hgr
    have hlen := hpt.len
    rw [List.length_append, List.length_singleton] at hlen
    have hnx := hpt.next HS.out
    simp only [Ev.enc, Ev.val]
    gi_wp2
    refine ⟨?_, fun w₂ hg2 => ?_⟩
    · exact ⟨by simp, fun k hk _ => heap_alloc_old W _ hk⟩
    have hW2 := hgr.size
    have hz2' := hg2.size
    rw [World.size_alloc] at hz2'
    have hz0 := hI.size
    have h7 := HBS.out
    have hI2 : ToB w (.slice Aw ds.length cw) t0 r most (pre.length : Int) true false w₂ := (ToB.below hI (below_new W _)).grown (by omega) hg2
    have fp := (hg2.block W.heap.size (by simp) (fun e => by injection e with e; omega)).trans (heap_alloc_new W _)
    have hbl : Below w.heap.size w w₂ := hI2.b
    have c0 := cell_of_row w₂ _ 0 _ _ _ hI2.b0
    have c1 : w₂.cell? ⟨w.heap.size + 1, 0, none⟩ = some (.int .i64 (t0 : Int)) := cell_of_row w₂ _ 0 _ _ _ hI2.b1
    have c2 : w₂.cell? ⟨w.heap.size + 1 + 1, 0, none⟩ = some (.int .i64 (r : Int)) := cell_of_row w₂ _ 0 _ _ _ hI2.b2
    have c3 : w₂.cell? ⟨w.heap.size + 1 + 1 + 1, 0, none⟩ = some (.int .i64 most) := cell_of_row w₂ _ 0 _ _ _ hI2.b3
    have c4 : w₂.cell? ⟨w.heap.size + 1 + 1 + 1 + 1, 0, none⟩ = some (.bool false) := cell_of_row w₂ _ 0 _ _ _ hI2.b4
    have c5 : w₂.cell? ⟨w.heap.size + 1 + 1 + 1 + 1 + 1, 0, none⟩ = some (.int .i64 (pre.length : Int)) := cell_of_row w₂ _ 0 _ _ _ hI2.b5
    have c6 : w₂.cell? ⟨w.heap.size + 1 + 1 + 1 + 1 + 1 + 1, 0, none⟩ = some (.bool true) := cell_of_row w₂ _ 0 _ _ _ hI2.b6
    have f4 : w₂.frozen? ⟨w.heap.size + 1 + 1 + 1 + 1, 0, none⟩ = false := frozen_of_row w₂ _ 0 _ _ hI2.b4
    have f5 : w₂.frozen? ⟨w.heap.size + 1 + 1 + 1 + 1 + 1, 0, none⟩ = false := frozen_of_row w₂ _ 0 _ _ hI2.b5
    have f6 : w₂.frozen? ⟨w.heap.size + 1 + 1 + 1 + 1 + 1 + 1, 0, none⟩ = false := frozen_of_row w₂ _ 0 _ _ hI2.b6
    have p0 : w₂.cell? ⟨W.heap.size, 0, none⟩ = some (.int .u8 (x.k : Int)) := cell_of_row w₂ _ 0 _ _ _ fp
    have p1 : w₂.cell? ⟨W.heap.size, 1, none⟩ = some (.slice x.A x.p.length x.c) := cell_of_row w₂ _ 1 _ _ _ fp
    have p2 : w₂.cell? ⟨W.heap.size, 2, none⟩ = some (.int .i64 (x.f : Int)) := cell_of_row w₂ _ 2 _ _ _ fp
    have p3 : w₂.cell? ⟨W.heap.size, 3, none⟩ = some (.int .i64 (x.t : Int)) := cell_of_row w₂ _ 3 _ _ _ fp
    have HIN := Lib_hid hI2
    clear hI2
    -- behind the asking: one more is counted, and asked whether that is enough
    have KEND : Hid (∀ X, ToB w (.slice Aw ds.length cw) t0 r most (pre.length : Int) true false X → KeepD Ax W7.heap.size w₂ X →
        X.cell? ⟨w.heap.size + 1 + 1 + 1, 0, none⟩ = some (.int .i64 most) ∧ X.cell? ⟨w.heap.size + 1 + 1 + 1 + 1, 0, none⟩ = some (.bool false) ∧ X.cell? ⟨w.heap.size + 1 + 1 + 1 + 1 + 1, 0, none⟩ = some (.int .i64 (pre.length : Int)) ∧ X.cell? ⟨w.heap.size + 1 + 1 + 1 + 1 + 1 + 1, 0, none⟩ = some (.bool true) ∧
        X.frozen? ⟨w.heap.size + 1 + 1 + 1 + 1, 0, none⟩ = false ∧ X.frozen? ⟨w.heap.size + 1 + 1 + 1 + 1 + 1, 0, none⟩ = false ∧
        (KeepD Ax W7.heap.size w₂ (X.setCell ⟨w.heap.size + 1 + 1 + 1 + 1 + 1, 0, none⟩ (.int .i64 ((pre.length : Int) + 1))) ∧ ToI w (.slice Aw ds.length cw) t0 r most (pre ++ [x]) (X.setCell ⟨w.heap.size + 1 + 1 + 1 + 1 + 1, 0, none⟩ (.int .i64 ((pre.length : Int) + 1)))) ∧
        (KeepD Ax W7.heap.size w₂ ((X.setCell ⟨w.heap.size + 1 + 1 + 1 + 1 + 1, 0, none⟩ (.int .i64 ((pre.length : Int) + 1))).setCell ⟨w.heap.size + 1 + 1 + 1 + 1, 0, none⟩ (.bool true)) ∧ ToX w (.slice Aw ds.length cw) t0 r most .ret (pre ++ [x]) ((X.setCell ⟨w.heap.size + 1 + 1 + 1 + 1 + 1, 0, none⟩ (.int .i64 ((pre.length : Int) + 1))).setCell ⟨w.heap.size + 1 + 1 + 1 + 1, 0, none⟩ (.bool true)))) := by
      intro X hX hK
      have s5 := hX.set5 ((pre.length : Int) + 1)
      have s4 := s5.set4 true
      have g5 := grown_set X (w.heap.size + 5) 0 (.int .i64 ((pre.length : Int) + 1))
      have g4 := grown_set (X.setCell ⟨w.heap.size + 5, 0, none⟩ (.int .i64 ((pre.length : Int) + 1))) (w.heap.size + 4) 0 (.bool true)
      have hz5 := g5.size
      have ne : ∀ kk, (kk = 0 ∨ (∃ ad, Ax = some ad ∧ kk = ad.block) ∨ (W7.heap.size ≤ kk ∧ kk < W7.heap.size + 3)) → kk ≠ w.heap.size + 4 ∧ kk ≠ w.heap.size + 5 := by
        rintro kk (rfl | ⟨ad, e2, rfl⟩ | h)
        · have := hT.1; omega
        · have := hA ad e2; omega
        · omega
      have k5 : KeepD Ax W7.heap.size w₂ (X.setCell ⟨w.heap.size + 5, 0, none⟩ (.int .i64 ((pre.length : Int) + 1))) := hK.trans ⟨g5.size, fun kk hk hx => g5.block kk hk (fun e => by injection e with e; exact (ne kk hx).2 e)⟩
      have k4 := k5.trans ⟨g4.size, fun kk hk hx => g4.block kk hk (fun e => by injection e with e; exact (ne kk hx).1 e)⟩
      have hl : ((pre ++ [x]).length : Int) = (pre.length : Int) + 1 := by simp
      exact ⟨cell_of_row X _ 0 _ _ _ hX.b3, cell_of_row X _ 0 _ _ _ hX.b4, cell_of_row X _ 0 _ _ _ hX.b5, cell_of_row X _ 0 _ _ _ hX.b6, frozen_of_row X _ 0 _ _ hX.b4, frozen_of_row X _ 0 _ _ hX.b5, ⟨k5, by unfold ToI; rw [hl]; exact s5⟩, k4, rfl, _, s4⟩
    rcases hnx with ⟨hx0, hxl, hxd⟩ | ⟨hr0, rfl, hxl⟩
    · obtain ⟨k, p, PA, pc, f, t, r'⟩ := x
      simp only at hx0 p0 p1 p2 p3
      subst hx0
      obtain ⟨A5, hsl, hr5⟩ := slice_pd (j := pre.length) (k := pre.length + 1) HWD.out (by omega) (by omega) hcw.1 hcw.2
      rw [pd_part hxd, show pre.length + 1 - pre.length = 1 by omega] at hr5
      rw [show pre.length + 1 - pre.length = 1 by omega] at hsl
      have hwr : IntKind.i64.wrap ((pre.length : Int) + 1) = (pre.length : Int) + 1 := IntWalk.i64_in _ (by omega)
      have hsl' : ∀ wx, (Instr.slice 40 (.slice Aw ds.length cw) (some (.int .i64 (pre.length : Int))) (some (.int .i64 ((pre.length : Int) + 1))) none).run Tryd.prog wx = .ok (.slice A5 1 (cw - pre.length)) wx := fun wx => by
        have := hsl wx
        rwa [show ((pre.length + 1 : Nat) : Int) = (pre.length : Int) + 1 by omega] at this
      have hox0 := hox rfl
      obtain ⟨o1, o2, o3⟩ := hox0
      have hpl : ∀ kk, (Value.slice PA p.length pc).ownBlock = some kk → W0.heap.size ≤ kk ∧ kk < W.heap.size := fun kk e => ⟨own_ge o1 kk e, own_lt o1 kk e⟩
      have hpay : ∀ X, (∀ kk, (Value.slice PA p.length pc).ownBlock = some kk → X.heap[kk]? = W.heap[kk]?) → PayOK X w.heap.size ⟨k, p, PA, pc, f, t, 0⟩ := fun X hX =>
        ⟨own_base (own_keep o1 hX) (fun kk e => by have := (hpl kk e).1; omega), o2, o3⟩
      have hk2 : ∀ kk, kk < W.heap.size → kk ≠ w.heap.size + 7 + 1 → w₂.heap[kk]? = W.heap[kk]? := fun kk h1 h2 => (hg2.block kk (by simp; omega) (fun e => by injection e with e; omega)).trans (heap_alloc_old W _ h1)
      have HC : Hid (∀ X, PB [⟨k, p, PA, pc, f, t, 0⟩] w₂ X → ToB w (.slice Aw ds.length cw) t0 r most (pre.length : Int) true false X ∧ X.heap[W.heap.size]? = some (.cells #[.int .u8 (k : Int), .slice PA p.length pc, .int .i64 (f : Int), .int .i64 (t : Int)] 59 (0, 0)) ∧ w₂.heap.size ≤ X.heap.size) := fun X hpb => by
        have key : ∀ kk, kk < w₂.heap.size → (∀ g, (Value.slice PA p.length pc).ownBlock = some g → g ≠ kk) → X.heap[kk]? = w₂.heap[kk]? := fun kk h1 h2 =>
          hpb.blk kk h1 (fun x hx e => by
            obtain rfl : x = ⟨k, p, PA, pc, f, t, 0⟩ := by simpa using hx
            exact h2 kk e rfl)
        have hb5 := hpb.below (B := w.heap.size) hbl.size (fun x hx kk e => by
            obtain rfl : x = ⟨k, p, PA, pc, f, t, 0⟩ := by simpa using hx
            have := (hpl kk e).1; omega)
        exact ⟨HIN.out.keep (fun i h1 h2 => key i (by omega) (fun g hg e => by have := (hpl g hg).1; omega)) (hbl.trans hb5), (key _ (by omega) (fun g hg e => by have := (hpl g hg).2; omega)).trans fp, hpb.size⟩
      have HSL := Lib_hid hsl'
      have HSP : Hid (∀ X g, Below w₂.heap.size w₂ X → w₂.heap.size ≤ g → X.heap[g]? = some (.cells #[.int .u8 (k : Int), .slice PA p.length pc, .int .i64 (f : Int), .int .i64 (t : Int)] 59 (0, 0)) → Calls Tryd.prog 22 #[.slice (some ⟨g, 0, none⟩) 1 1, .slice A5 1 (cw - pre.length)] X fun e w' => e = .returned (.bool true) ∧ PB [⟨k, p, PA, pc, f, t, 0⟩] X w') := by
        intro X g hX hg hgb
        refine splaced_any w.heap.size (g + 1) (some ⟨g, 0, none⟩) 1 1 A5 1 (cw - pre.length) [⟨k, p, PA, pc, f, t, 0⟩] [(k, p, f, t)] X ⟨rfl, fun _ => ⟨_, rfl, by simp, fun j u hu => ?_⟩⟩ (Array.getElem?_eq_some_iff.1 hgb).1 ?_ (Nat.le_trans hbl.size hX.size) ?_ ?_ (List.pairwise_singleton _ _) rfl (by omega)
        · rw [add_plain, Nat.zero_add, cell_of_row X g j _ _ _ hgb, ← hu]; simp [plCells, Ev.cells]
        · exact Rd.more ((hr5.below (hbl.mono hB)).below (hX.mono (Nat.le_trans hB hbl.size))) hB
        · intro x hx
          obtain rfl : x = ⟨k, p, PA, pc, f, t, 0⟩ := by simpa using hx
          exact hpay _ fun kk e => (hX.block kk (by have := (hpl kk e).2; omega)).trans (hk2 kk (hpl kk e).2 (by have := (hpl kk e).1; omega))
        · intro x hx g' hg' ad e _
          obtain rfl : x = ⟨k, p, PA, pc, f, t, 0⟩ := by simpa using hx
          injection e with e
          subst e
          have := (hpl g' hg').2
          show g ≠ g'
          omega
      have KOUT : Hid (∀ X, PB [⟨k, p, PA, pc, f, t, 0⟩] w₂ X → KeepD Ax W7.heap.size w₂ X) := fun X hX => ⟨hX.size, fun kk hk1 hk3 => hX.blk kk hk1 fun x hx e => by
        obtain rfl : x = ⟨k, p, PA, pc, f, t, 0⟩ := by simpa using hx
        have h9 := hpl kk e
        rcases hk3 with rfl | ⟨ad, e2, rfl⟩ | h
        · have := hT.1; omega
        · have := hA ad e2; omega
        · omega⟩
      have HPL := Lib_hid hpl
      clear hsl hsl' hox o1 hpay hpl hk2 hr5
      gi_wp2_with fail
      refine wpIn_region_midJ 13 (PB [⟨k, p, PA, pc, f, t, 0⟩]) (tPr w₂.heap.size pre.length (.slice Aw ds.length cw) (.slice A5 1 (cw - pre.length)) ⟨k, p, PA, pc, f, t, 0⟩) (fun h k => h.trans k) (fun h => PB.under h) (by kernel_rfl) (by kernel_rfl) (by kernel_rfl) rfl (by kernel_rfl) ?_ ?_ ?_
      · exact fun i v X Y _ hR hp => tPr_keep (fun g hg => by have := (HPL.out g hg).2; omega) hR i v hp
      · intro i o a wx hi hM hB hU hD
        have hi16 : i < 16 := (Array.getElem?_eq_some_iff.1 hi).1
        have hcase : i = 0 ∨ i = 1 ∨ i = 2 ∨ i = 3 ∨ i = 4 ∨ i = 5 ∨ i = 6 ∨ i = 7 ∨ i = 8 ∨ i = 9 ∨ i = 10 ∨ i = 11 ∨ i = 12 ∨ i = 13 ∨ i = 14 ∨ i = 15 := by omega
        clear hi16
        have HSZ : Hid (a.tmps.size = 102) := Lib_hid hM.tmps
        obtain ⟨hbx, hpx, hzx⟩ := HC.out wx hM.rel
        have c0 := cell_of_row wx _ 0 _ _ _ hbx.b0
        have c5 : wx.cell? ⟨w.heap.size + 1 + 1 + 1 + 1 + 1, 0, none⟩ = some (.int .i64 (pre.length : Int)) := cell_of_row wx _ 0 _ _ _ hbx.b5
        have c6 : wx.cell? ⟨w.heap.size + 1 + 1 + 1 + 1 + 1 + 1, 0, none⟩ = some (.bool true) := cell_of_row wx _ 0 _ _ _ hbx.b6
        have f6 : wx.frozen? ⟨w.heap.size + 1 + 1 + 1 + 1 + 1 + 1, 0, none⟩ = false := frozen_of_row wx _ 0 _ _ hbx.b6
        have p0 : wx.cell? ⟨W.heap.size, 0, none⟩ = some (.int .u8 (k : Int)) := cell_of_row wx _ 0 _ _ _ hpx
        have p1 : wx.cell? ⟨W.heap.size, 1, none⟩ = some (.slice PA p.length pc) := cell_of_row wx _ 1 _ _ _ hpx
        have p2 : wx.cell? ⟨W.heap.size, 2, none⟩ = some (.int .i64 (f : Int)) := cell_of_row wx _ 2 _ _ _ hpx
        have p3 : wx.cell? ⟨W.heap.size, 3, none⟩ = some (.int .i64 (t : Int)) := cell_of_row wx _ 3 _ _ _ hpx
        have e12 : a.tmps.getD 12 undef = .pointer (some ⟨w.heap.size + 1 + 1 + 1 + 1 + 1 + 1, 0, none⟩) := (hM.other 12 (by decide +kernel)).trans rfl
        have e11 : a.tmps.getD 11 undef = .pointer (some ⟨w.heap.size + 1 + 1 + 1 + 1 + 1, 0, none⟩) := (hM.other 11 (by decide +kernel)).trans rfl
        have e6 : a.tmps.getD 6 undef = .pointer (some ⟨w.heap.size, 0, none⟩) := (hM.other 6 (by decide +kernel)).trans rfl
        have e13 : a.tmps.getD 13 undef = .pointer (some ⟨W.heap.size, 0, none⟩) := (hM.other 13 (by decide +kernel)).trans rfl
        have e14 : a.tmps.getD 14 undef = .int .i64 0 := (hM.other 14 (by decide +kernel)).trans rfl
        rcases hcase with rfl | rfl | rfl | rfl | rfl | rfl | rfl | rfl | rfl | rfl | rfl | rfl | rfl | rfl | rfl | rfl
        · obtain rfl := Option.some.inj hi
          refine ⟨rfl, mid_step (.bool true) wx (fun K hK => ?_) ⟨_, rfl, rfl, ahead_j (by omega) (Below.refl _ _)⟩⟩
          go_simp
          exact hK
        · obtain rfl := Option.some.inj hi
          have e24 : a.tmps.getD 24 undef = .bool true := hD 0 (by kernel_rfl) _ 24 rfl rfl
          refine ⟨rfl, mid_step (.bool true) wx (fun K hK => ?_) ⟨_, rfl, rfl, ahead_j (by omega) (Below.refl _ _)⟩⟩
          go_simp
          exact hK
        · obtain rfl := Option.some.inj hi
          have e25 : a.tmps.getD 25 undef = .bool true := hD 1 (by kernel_rfl) _ 25 rfl rfl
          refine ⟨wanted_b rfl rfl (by rw [HSZ.out]; decide) e25, mid_step (.int .i64 0) wx (fun K hK => ?_) ⟨_, rfl, rfl, ahead_j (by omega) (Below.refl _ _)⟩⟩
          go_simp
          exact hK
        · obtain rfl := Option.some.inj hi
          have e25 : a.tmps.getD 25 undef = .bool true := hD 1 (by kernel_rfl) _ 25 rfl rfl
          have e26 : a.tmps.getD 26 undef = .int .i64 0 := hD 2 (by kernel_rfl) _ 26 rfl rfl
          refine ⟨wanted_b rfl rfl (by rw [HSZ.out]; decide) e25, mid_step (.bool true) wx (fun K hK => ?_) ⟨_, rfl, rfl, ahead_j (by omega) (Below.refl _ _)⟩⟩
          go_simp
          exact hK
        · obtain rfl := Option.some.inj hi
          have e25 : a.tmps.getD 25 undef = .bool true := hD 1 (by kernel_rfl) _ 25 rfl rfl
          have e27 : a.tmps.getD 27 undef = .bool true := hD 3 (by kernel_rfl) _ 27 rfl rfl
          refine ⟨rfl, mid_step (.bool true) wx (fun K hK => ?_) ⟨_, rfl, rfl, ahead_j (by omega) (Below.refl _ _)⟩⟩
          go_simp
          exact hK
        · obtain rfl := Option.some.inj hi
          have e28 : a.tmps.getD 28 undef = .bool true := hD 4 (by kernel_rfl) _ 28 rfl rfl
          refine ⟨rfl, mid_step (.bool true) wx (fun K hK => ?_) ⟨_, rfl, rfl, ahead_j (by omega) (Below.refl _ _)⟩⟩
          go_simp
          exact hK
        · obtain rfl := Option.some.inj hi
          have e29 : a.tmps.getD 29 undef = .bool true := hD 5 (by kernel_rfl) _ 29 rfl rfl
          refine ⟨wanted_b rfl rfl (by rw [HSZ.out]; decide) e29, mid_step (.agg #[.int .u8 (k : Int), .slice PA p.length pc, .int .i64 (f : Int), .int .i64 (t : Int)]) wx (fun K hK => ?_) ⟨_, rfl, rfl, ahead_j (by omega) (Below.refl _ _)⟩⟩
          go_simp
          exact hK
        · obtain rfl := Option.some.inj hi
          have e29 : a.tmps.getD 29 undef = .bool true := hD 5 (by kernel_rfl) _ 29 rfl rfl
          have e30 : a.tmps.getD 30 undef = .agg #[.int .u8 (k : Int), .slice PA p.length pc, .int .i64 (f : Int), .int .i64 (t : Int)] := hD 6 (by kernel_rfl) _ 30 rfl rfl
          have e30' := e30
          rw [Array.getD_eq_getD_getElem?] at e30'
          refine ⟨wanted_b rfl rfl (by rw [HSZ.out]; decide) e29, mid_step (.slice (some ⟨wx.heap.size, 0, none⟩) 1 1) (wx.alloc (.cells #[.int .u8 (k : Int), .slice PA p.length pc, .int .i64 (f : Int), .int .i64 (t : Int)] 59)) (fun K hK => ?_) ⟨_, rfl, ⟨_, rfl, hzx, heap_alloc_new wx _⟩, ahead_j (by omega) (below_new wx _)⟩⟩
          go_simp
          exact hK
        · obtain rfl := Option.some.inj hi
          have e29 : a.tmps.getD 29 undef = .bool true := hD 5 (by kernel_rfl) _ 29 rfl rfl
          refine ⟨wanted_b rfl rfl (by rw [HSZ.out]; decide) e29, mid_step (.slice Aw ds.length cw) wx (fun K hK => ?_) ⟨_, rfl, rfl, ahead_j (by omega) (Below.refl _ _)⟩⟩
          go_simp
          exact hK
        · obtain rfl := Option.some.inj hi
          have e29 : a.tmps.getD 29 undef = .bool true := hD 5 (by kernel_rfl) _ 29 rfl rfl
          refine ⟨wanted_b rfl rfl (by rw [HSZ.out]; decide) e29, mid_step (.int .i64 (pre.length : Int)) wx (fun K hK => ?_) ⟨_, rfl, rfl, ahead_j (by omega) (Below.refl _ _)⟩⟩
          go_simp
          exact hK
        · obtain rfl := Option.some.inj hi
          have e29 : a.tmps.getD 29 undef = .bool true := hD 5 (by kernel_rfl) _ 29 rfl rfl
          refine ⟨wanted_b rfl rfl (by rw [HSZ.out]; decide) e29, mid_step (.int .i64 (pre.length : Int)) wx (fun K hK => ?_) ⟨_, rfl, rfl, ahead_j (by omega) (Below.refl _ _)⟩⟩
          go_simp
          exact hK
        · obtain rfl := Option.some.inj hi
          have e29 : a.tmps.getD 29 undef = .bool true := hD 5 (by kernel_rfl) _ 29 rfl rfl
          have e34 : a.tmps.getD 34 undef = .int .i64 (pre.length : Int) := hD 10 (by kernel_rfl) _ 34 rfl rfl
          refine ⟨wanted_b rfl rfl (by rw [HSZ.out]; decide) e29, mid_step (.int .i64 ((pre.length : Int) + 1)) wx (fun K hK => ?_) ⟨_, rfl, rfl, ahead_j (by omega) (Below.refl _ _)⟩⟩
          go_simp
          exact hK
        · obtain rfl := Option.some.inj hi
          have e29 : a.tmps.getD 29 undef = .bool true := hD 5 (by kernel_rfl) _ 29 rfl rfl
          have e32 : a.tmps.getD 32 undef = .slice Aw ds.length cw := hD 8 (by kernel_rfl) _ 32 rfl rfl
          have e33 : a.tmps.getD 33 undef = .int .i64 (pre.length : Int) := hD 9 (by kernel_rfl) _ 33 rfl rfl
          have e35 : a.tmps.getD 35 undef = .int .i64 ((pre.length : Int) + 1) := hD 11 (by kernel_rfl) _ 35 rfl rfl
          have hsl := HSL.out
          refine ⟨wanted_b rfl rfl (by rw [HSZ.out]; decide) e29, mid_step (.slice A5 1 (cw - pre.length)) wx (fun K hK => ?_) ⟨_, rfl, rfl, ahead_j (by omega) (Below.refl _ _)⟩⟩
          go_simp
          exact hK
        · obtain rfl := Option.some.inj hi
          have e29 : a.tmps.getD 29 undef = .bool true := hD 5 (by kernel_rfl) _ 29 rfl rfl
          obtain ⟨g, e31, hgS, hgb⟩ := hD 7 (by kernel_rfl) _ 31 rfl rfl
          have e36 : a.tmps.getD 36 undef = .slice A5 1 (cw - pre.length) := hD 12 (by kernel_rfl) _ 36 rfl rfl
          have hB' := hB rfl
          refine ⟨wanted_b rfl rfl (by rw [HSZ.out]; decide) e29, mid_call (fun v w' => v = .bool true ∧ PB [⟨k, p, PA, pc, f, t, 0⟩] wx w') (fun K hK => ?_) (fun v w' h => ⟨v, rfl, h.1, behind_j (by omega) h.2⟩)⟩
          have SP := HSP.out wx g hB' hgS hgb
          clear hB' hgb hB hU hD
          go_simp
          refine SP.mono ?_
          rintro e w' ⟨rfl, hpb⟩
          exact hK _ _ ⟨rfl, hpb⟩
        · obtain rfl := Option.some.inj hi
          have e29 : a.tmps.getD 29 undef = .bool true := hD 5 (by kernel_rfl) _ 29 rfl rfl
          have e37 : a.tmps.getD 37 undef = .bool true := hD 13 (by kernel_rfl) _ 37 rfl rfl
          refine ⟨rfl, mid_step (.bool true) wx (fun K hK => ?_) ⟨_, rfl, rfl, behind_j (by omega) (PB.refl _ _)⟩⟩
          go_simp
          exact hK
        · obtain rfl := Option.some.inj hi
          have e38 : a.tmps.getD 38 undef = .bool true := hD 14 (by kernel_rfl) _ 38 rfl rfl
          refine ⟨rfl, mid_step undef (wx.setCell ⟨w.heap.size + 1 + 1 + 1 + 1 + 1 + 1, 0, none⟩ (.bool true)) (fun K hK => ?_) ⟨_, rfl, trivial, behind_j (by omega) (same_set hbx.b6)⟩⟩
          go_simp
          exact hK
      · intro a wx hM hD
        clear c0 c1 c2 c3 c4 c5 c6 f4 f5 f6 p0 p1 p2 p3 fp
        obtain ⟨hbx, hpx, hzx⟩ := HC.out wx hM.rel
        have hKD : KeepD Ax W7.heap.size w₂ wx := KOUT.out _ hM.rel
        have hdf : a.defers = [] := hM.defers.trans rfl
        have ht := hM.frame _ 5 24 15 rfl (by decide) (Nat.le_of_ble_eq_true (by kernel_rfl)) (by kernel_rfl)
        simp only [List.take_succ_cons, List.take_zero, List.drop_succ_cons, List.drop_zero, List.cons_append, List.nil_append, List.range, List.range.loop, List.map, Nat.reduceAdd, Nat.reduceSub] at ht
        generalize a.tmps.getD 5 undef = y5 at ht
        generalize a.tmps.getD 24 undef = y24 at ht
        generalize a.tmps.getD 25 undef = y25 at ht
        generalize a.tmps.getD 26 undef = y26 at ht
        generalize a.tmps.getD 27 undef = y27 at ht
        generalize a.tmps.getD 28 undef = y28 at ht
        generalize a.tmps.getD 29 undef = y29 at ht
        generalize a.tmps.getD 30 undef = y30 at ht
        generalize a.tmps.getD 31 undef = y31 at ht
        generalize a.tmps.getD 32 undef = y32 at ht
        generalize a.tmps.getD 33 undef = y33 at ht
        generalize a.tmps.getD 34 undef = y34 at ht
        generalize a.tmps.getD 35 undef = y35 at ht
        generalize a.tmps.getD 36 undef = y36 at ht
        generalize a.tmps.getD 37 undef = y37 at ht
        generalize a.tmps.getD 38 undef = y38 at ht
        clear hM hD
        obtain ⟨tm, df⟩ := a
        simp only at hdf ht
        subst hdf ht
        have hKI := KEND.out _ hbx hKD
        clear hbx hKD hpx HC HSL HSP
        obtain ⟨c3, c4, c5, c6, f4, f5, hK1, hK2⟩ := hKI
        have HK1 := Lib_hid hK1
        have HK2' := Lib_hid hK2
        clear hK1 hK2
        gi_wp2
        all_goals first | exact HK2'.out | exact HK1.out
    · have g6 := grown_set w₂ (w.heap.size + 6) 0 (.bool true)
      have hK6 : KeepD Ax W7.heap.size w₂ (w₂.setCell ⟨w.heap.size + 6, 0, none⟩ (.bool true)) := ⟨g6.size, fun kk hk hx => g6.block kk hk (fun e => by
        injection e with e
        rcases hx with rfl | ⟨ad, e2, rfl⟩ | h
        · have := hT.1; omega
        · have := hA ad e2; omega
        · omega)⟩
      have hKI := KEND.out _ (HIN.out.set6 true) hK6
      obtain ⟨-, -, -, -, -, -, hK1, hK2⟩ := hKI
      rw [hxl] at hK1 hK2
      have HK1 := Lib_hid hK1
      have HK2' := Lib_hid hK2
      have hrz : ((r : Int) != 0) = true := by simp; omega
      have hlz : ((pre.length : Int) == (ds.length : Int)) = true := by simp; omega
      clear hK1 hK2 hK6 g6
      simp only [Ev.bad, List.length_nil, show ((0 : Nat) : Int) = 0 from rfl] at p0 p1 p2 p3 HK1 HK2' ⊢
      gi_wp2
      all_goals first | exact HK2'.out | exact HK1.out
  case done =>
    intro xs W hF hI hD
    have h7 := HBS.out
    have hcase : (r = 0 ∧ xs.length = ds.length) ∨ (r ≠ 0 ∧ xs.length = ds.length + 1) := by
      rcases hF with ⟨_, h⟩ | ⟨gs, e, r', h1, rfl, _, h⟩
      · rw [HS.out] at h
        injection h with h1 h2
        injection h2 with h2 h3
        exact .inl ⟨h3, by rw [h1]; simp⟩
      · rw [HS.out] at h
        injection h with h1' h2
        injection h2 with h2 h3
        exact .inr ⟨by rw [h3]; exact h1, by rw [h1']; simp⟩
    have hI2 : ToB w (.slice Aw ds.length cw) t0 r most (xs.length : Int) true false W := hI
    have hlen : xs.length ≤ 1000002 := by omega
    have c0 := cell_of_row W _ 0 _ _ _ hI2.b0
    have c2 : W.cell? ⟨w.heap.size + 1 + 1, 0, none⟩ = some (.int .i64 (r : Int)) := cell_of_row W _ 0 _ _ _ hI2.b2
    have c4 : W.cell? ⟨w.heap.size + 1 + 1 + 1 + 1, 0, none⟩ = some (.bool false) := cell_of_row W _ 0 _ _ _ hI2.b4
    have c5 : W.cell? ⟨w.heap.size + 1 + 1 + 1 + 1 + 1, 0, none⟩ = some (.int .i64 (xs.length : Int)) := cell_of_row W _ 0 _ _ _ hI2.b5
    have c6 : W.cell? ⟨w.heap.size + 1 + 1 + 1 + 1 + 1 + 1, 0, none⟩ = some (.bool true) := cell_of_row W _ 0 _ _ _ hI2.b6
    have f4 : W.frozen? ⟨w.heap.size + 1 + 1 + 1 + 1, 0, none⟩ = false := frozen_of_row W _ 0 _ _ hI2.b4
    have hg := grown_set W (w.heap.size + 4) 0 (.bool true)
    have HFE := Lib_hid (told_fin (H := W7.heap.size) (by omega) (hI2.set4 true) ((hg.block _ (Array.getElem?_eq_some_iff.1 hD).1 (fun e => by injection e with e; omega)).trans hD))
    clear hI hI2 hD hF hg
    rcases hcase with ⟨h1, h2⟩ | ⟨h1, h2⟩
    · have hd1 : ((r : Int) != 0) = false := by simp; omega
      have hd2 : ((xs.length : Int) == (ds.length : Int)) = true := by simp; omega
      clear h1 h2
      gi_wp2
      exact HFE.out _ rfl
    · have hd1 : ((r : Int) != 0) = true := by simp; omega
      have hd2 : ((xs.length : Int) == (ds.length : Int) + 1) = true := by simp; omega
      clear h1 h2
      gi_wp2
      exact HFE.out _ rfl
  case stop =>
    rintro cc pre W hPt ⟨rfl, k, hB⟩ hD
    have HFE := Lib_hid (told_fin (H := W7.heap.size) (by rw [HBS.out]; exact Nat.le_refl _) hB hD)
    clear hB hD
    gi_wp2
    exact HFE.out _ rfl

end Go.Proofs.YtedglcbeheeonaaDoor

namespace Go.Proofs.YtedglcbeheeonaaDoor
open Go Go.RowKit
set_option linter.unusedVariables false

/-- w' is w but for n cells from A on. -/
structure But (A : Option Addr) (n : Nat) (w w' : World) : Prop where
  os : w'.os = w.os
  tape : w'.tape = w.tape
  output : w'.output = w.output
  size : w.heap.size ≤ w'.heap.size
  other : ∀ k, k < w.heap.size → (0 < n → ∀ ad, A = some ad → k ≠ ad.block) → w'.heap[k]? = w.heap[k]?
  blk : 0 < n → ∀ ad, A = some ad → ∃ (arr arr' : Array Value) (T : TypeId) (fr : Nat × Nat), w.heap[ad.block]? = some (.cells arr T fr) ∧ w'.heap[ad.block]? = some (.cells arr' T fr) ∧ arr'.size = arr.size ∧ ∀ i, (i < ad.off ∨ ad.off + n ≤ i) → arr'[i]? = arr[i]?

theorem cells_of_cell {w : World} {a : Addr} {u : Value} (h : w.cell? a = some u) : ∃ (arr : Array Value) (T : TypeId) (fr : Nat × Nat), w.heap[a.block]? = some (.cells arr T fr) ∧ a.spot = none ∧ arr[a.off]? = some u := by
  unfold World.cell? at h
  split at h
  · rename_i c T fr e
    split at h
    · cases h
    · rename_i hs
      exact ⟨c, T, fr, e, by simpa using hs, h⟩
  · cases h

section
variable {A : Option Addr} {n B size : Nat} {w w' w'' : World} {xs : List Value}
theorem But.refl (h : Rd w B 1 A n xs) : But A n w w := ⟨rfl, rfl, rfl, Nat.le_refl _, fun _ _ _ => rfl, fun hn ad e => by
  obtain ⟨ad', e', _, hc⟩ := h.lies hn
  rw [e] at e'; injection e' with e'; subst e'
  have hl := h.len
  obtain ⟨u, hu⟩ : ∃ u, xs[0]? = some u := ⟨_, List.getElem?_eq_getElem (by omega)⟩
  obtain ⟨arr, T, fr, h1, _⟩ := cells_of_cell (hc 0 u hu)
  rw [add_block] at h1
  exact ⟨arr, arr, T, fr, h1, h1, rfl, fun _ _ => rfl⟩⟩
theorem But.below (h : But A n w w') (hb : Below w'.heap.size w' w'') (hA : ∀ ad, 0 < n → A = some ad → ad.block < w.heap.size) : But A n w w'' :=
  ⟨hb.os.trans h.os, hb.tape.trans h.tape, hb.output.trans h.output, Nat.le_trans h.size hb.size, fun k hk hx => (hb.block k (Nat.lt_of_lt_of_le hk h.size)).trans (h.other k hk hx), fun hn ad e => by
    obtain ⟨arr, arr', T, fr, h1, h2, h3, h4⟩ := h.blk hn ad e
    exact ⟨arr, arr', T, fr, h1, (hb.block _ (Nat.lt_of_lt_of_le (hA ad hn e) h.size)).trans h2, h3, h4⟩⟩
theorem But.set (h : But A n w w') {ad : Addr} (hA : A = some ad) {i : Nat} (hi : i < n) (v : Value) : But A n w (w'.setCell ⟨ad.block, ad.off + i, none⟩ v) := by
  subst hA
  refine ⟨h.os, h.tape, h.output, by have := h.size; simpa [World.setCell] using this, fun k hk hx => (Below.heap_setCell w' ⟨ad.block, ad.off + i, none⟩ v k (fun e => hx (by omega) ad rfl e)).trans (h.other k hk hx), fun hn ad' e => ?_⟩
  obtain ⟨arr, arr', T, fr, h1, h2, h3, h4⟩ := h.blk hn ad' e
  injection e with e; subst e
  refine ⟨arr, arr'.setIfInBounds (ad.off + i) v, T, fr, h1, Joins.block_setCell h2 v, by simpa using h3, fun j hj => ?_⟩
  rw [Array.getElem?_setIfInBounds, if_neg (by omega)]
  exact h4 j hj
theorem But.cell (h : But A n w w') {p : Addr} (hp : p.block < w.heap.size) (hx : 0 < n → ∀ ad, A = some ad → p.block ≠ ad.block) : w'.cell? p = w.cell? p :=
  World.cell?_of_block (h.other p.block hp hx)
theorem But.frozen (h : But A n w w') {ad : Addr} (hA : A = some ad) (hn : 0 < n) (i : Nat) : w'.frozen? ⟨ad.block, i, none⟩ = w.frozen? ⟨ad.block, i, none⟩ := by
  obtain ⟨arr, arr', T, fr, h1, h2, _⟩ := h.blk hn ad hA
  simp [World.frozen?, h1, h2]
/-- What was written over reads as before: all is as it was. -/
theorem But.back (h : But A n w w') (hB : ∀ ad, A = some ad → 0 < n → ∀ i, i < n → w'.cell? ⟨ad.block, ad.off + i, none⟩ = w.cell? ⟨ad.block, ad.off + i, none⟩) : Below w.heap.size w w' := by
  refine ⟨h.os, h.tape, h.output, h.size, fun k hk => ?_⟩
  by_cases hx : 0 < n ∧ ∃ ad, A = some ad ∧ k = ad.block
  · obtain ⟨hn, ad, e, rfl⟩ := hx
    obtain ⟨arr, arr', T, fr, h1, h2, h3, h4⟩ := h.blk hn ad e
    rw [h1, h2]
    congr 2
    apply Array.ext_getElem?
    intro j
    by_cases hj : j < ad.off ∨ ad.off + n ≤ j
    · exact h4 j hj
    · have := hB ad e hn (j - ad.off) (by omega)
      rw [show ad.off + (j - ad.off) = j by omega] at this
      simpa [World.cell?, h1, h2] using this
  · exact h.other k hk fun hn ad e he => hx ⟨hn, ad, e, he⟩
end

/-- The row may be written. -/
def Free (w : World) (A : Option Addr) (n : Nat) : Prop := ∀ ad, A = some ad → ∀ i, i < n → w.frozen? ⟨ad.block, ad.off + i, none⟩ = false

theorem But.free {A : Option Addr} {n : Nat} {w w' : World} (h : But A n w w') (hf : Free w A n) : Free w' A n := fun ad e i hi => (h.frozen e (by omega) _).trans (hf ad e i hi)

theorem But.sets {n : Nat} {w : World} {ad : Addr} : ∀ (vs : List Value) (i : Nat) (w' : World), But (some ad) n w w' → i + vs.length ≤ n → But (some ad) n w (w'.setCells ad.block (ad.off + i) vs)
  | [], _, _, h, _ => h
  | v :: r, i, w', h, hl => by
    simp only [World.setCells, List.length_cons] at hl ⊢
    exact But.sets r (i + 1) _ (h.set rfl (i := i) (by omega) v) (by omega)

theorem rd_cells {w : World} {B n : Nat} {A : Option Addr} {xs : List Value} (h : Rd w B 1 A n xs) (hn : 0 < n) : ∃ b off, A = some ⟨b, off, none⟩ ∧ b < B ∧ ∀ j u, xs[j]? = some u → w.cell? ⟨b, off + j, none⟩ = some u := by
  obtain ⟨ad, e, hb, hc⟩ := h.lies hn
  have hl := h.len
  obtain ⟨u, hu⟩ : ∃ u, xs[0]? = some u := ⟨_, List.getElem?_eq_getElem (by omega)⟩
  obtain ⟨b, off, sp⟩ := ad
  have hsp : sp = none := World.cell?_spot (a := ⟨b, off, sp⟩) (hc 0 u hu)
  subst hsp
  refine ⟨b, off, e, hb, fun j u hu => ?_⟩
  have := hc j u hu
  rwa [show (⟨b, off, none⟩ : Addr).add j = ⟨b, off + j, none⟩ by unfold Addr.add; split <;> simp_all] at this

end Go.Proofs.YtedglcbeheeonaaDoor

namespace Go.Proofs.YtedglcbeheeonaaDoor
open Go Go.RowKit
set_option linter.unusedVariables false

theorem But.tab {n : Nat} {A : Option Addr} {l : List Nat} {w w' : World} {B : Nat} (h : But A n w w') (hr : Rd w B 1 A n (bs l)) (hT : Tab w) : Tab w' := by
  refine ⟨Nat.lt_of_lt_of_le hT.1 h.size, fun k hk => ?_⟩
  have ht := hT.2 k hk
  by_cases hx : 0 < n ∧ ∃ ad, A = some ad ∧ ad.block = 0
  · obtain ⟨hn, ad, e, h0⟩ := hx
    obtain ⟨arr, arr', T, fr, h1, h2, h3, h4⟩ := h.blk hn ad e
    obtain ⟨b, off, e2, _, hc⟩ := rd_cells hr hn
    rw [e] at e2
    injection e2 with e2
    subst e2
    simp only at h0 h1 h2 h4
    subst h0
    have hk2 : k < off ∨ off + n ≤ k := by
      rcases Nat.lt_or_ge k off with h5 | h5
      · exact .inl h5
      · rcases Nat.lt_or_ge k (off + n) with h6 | h6
        · exfalso
          have hl := hr.count
          have := hc (k - off) _ (bs_get (l := l) (j := k - off) (by omega))
          rw [show off + (k - off) = k by omega, ht] at this
          injection this with this
          injection this with this
          cases this
        · exact .inr h6
    have e1 : w.cell? ⟨0, k, none⟩ = arr[k]? := by simp [World.cell?, h1]
    have e3 : w'.cell? ⟨0, k, none⟩ = arr'[k]? := by simp [World.cell?, h2]
    rw [e3, h4 k hk2, ← e1]; exact ht
  · rw [← ht]
    exact World.cell?_of_block (h.other 0 hT.1 fun hn ad e h0 => hx ⟨hn, ad, e, h0.symm⟩)

set_option maxRecDepth 100000 in
theorem spoilb_any (B n c : Nat) (A : Option Addr) (l : List Nat) (w W : World) (h : Rd w B 1 A n (bs l)) (hb : But A n w W) (hf : Free w A n) (hn : n ≤ 9223372036854775807) :
    Calls Tryd.prog 15 #[.slice A n c] W fun e w' => e = .returned (.tuple #[]) ∧ But A n w w' := by
  go_enter Tryd.func15, Tryd.ntmps15
  go_wp2
  go_loopw [2] (fun i wr => ∃ (k : Nat), i = .int .i64 k ∧ k ≤ n ∧ But A n w wr) (fun i _ => n - (intOf i).toNat)
  case atStart => exact ⟨0, rfl, Nat.zero_le _, hb⟩
  case round =>
    clear hb
    obtain ⟨k, rfl, hk, ho⟩ := hrel
    by_cases hlt : k < n
    · obtain ⟨b, off, rfl, _, hc⟩ := rd_cells h (by omega)
      obtain ⟨arr, arr', T, fr, h1, h2, h3, h4⟩ := ho.blk (by omega) _ rfl
      simp only at h1 h2
      have hl := h.count
      have hcw := hc k _ (bs_get (l := l) (j := k) (by omega))
      have hin : off + k < arr.size := by
        simp [World.cell?, h1] at hcw
        exact (Array.getElem?_eq_some_iff.1 hcw).1
      obtain ⟨u, hu⟩ : ∃ u, wr.cell? ⟨b, off + k, none⟩ = some u := ⟨arr'[off + k]'(by omega), by simp [World.cell?, h2, h3, hin]⟩
      have hfr : wr.frozen? ⟨b, off + k, none⟩ = false := (ho.frozen rfl (by omega) _).trans (hf _ rfl k hlt)
      have hs := ho.set rfl hlt (.int .u8 165)
      simp only at hs
      clear ho h1 h2 h4 hc hcw h hf hl h3 hin
      go_wp2
      go_roundw
      case rel => exact ⟨k + 1, by go_num, by omega, hs⟩
      case measure => simp [intOf]; omega
    · go_wp2
      go_end0
      exact ⟨rfl, ho⟩

/-- copy(b, own): all is as it was. -/
theorem copyb {B B' n c c' : Nat} {A A' : Option Addr} {l : List Nat} {w W : World} (h : Rd w B 1 A n (bs l)) (hb : But A n w W) (hf : Free w A n) (h' : Rd W B' 1 A' n (bs l)) :
    ∃ W', (∀ ty, (Builtin.copy_ #[23, 23] ty #[.slice A n c, .slice A' n c']).run Tryd.prog W = .ok (.int .i64 (n : Int)) W') ∧ Below w.heap.size w W' := by
  have hsz : (Tryd.prog.info? 5).map (·.size) = some 1 := by
    obtain ⟨i0, hi, hz0, hz1, hz2⟩ := info_parts Tryd.info5
    rw [hi]; simp [hz1]
  have hl := h.count
  by_cases hn : n = 0
  · subst hn
    exact ⟨W, fun ty => run_copy_none (P := Tryd.prog) W 23 23 ty 5 A A' 0 c 0 c' Tryd.underlying23 hsz rfl, hb.back fun _ _ hx => absurd hx (by omega)⟩
  · obtain ⟨b, off, rfl, _, hc⟩ := rd_cells h (by omega)
    obtain ⟨a, rfl, _, hs⟩ := h'.lies (by omega)
    have hbl : (bs l).length = n := by rw [bs_length]; exact hl
    obtain ⟨arr, arr', T, fr, h1, h2, h3, h4⟩ := hb.blk (by omega) _ rfl
    simp only at h1 h2
    have hin : ∀ j, j < n → (W.cell? ⟨b, off + j, none⟩).isSome = true := by
      intro j hj
      have hcw := hc j _ (bs_get (l := l) (j := j) (by omega))
      simp [World.cell?, h1] at hcw
      have := (Array.getElem?_eq_some_iff.1 hcw).1
      simp [World.cell?, h2, h3, this]
    have hfr : ∀ j, j < n → W.frozen? ⟨b, off + j, none⟩ = false := fun j hj => (hb.frozen rfl (by omega) _).trans (hf _ rfl j hj)
    refine ⟨W.setCells b off (bs l), fun ty => ?_, (But.sets (bs l) 0 W hb (by omega)).back ?_⟩
    · have := run_copy_cells (P := Tryd.prog) W 23 23 ty 5 b off n c a n c' (bs l) Tryd.underlying23 hsz (by rw [hbl]; simp) hs (by rw [hbl]; exact hin) (by rw [hbl]; exact hfr) (bs_one l)
      rw [this, hbl]; rfl
    · intro ad e _ i hi
      injection e with e
      subst e
      show (W.setCells b (off + 0) (bs l)).cell? ⟨b, off + i, none⟩ = _
      rw [Nat.add_zero, World.cell?_setCells_in b (bs l) off W (by rw [hbl]; exact hin) i (by omega), hc i _ (bs_get (l := l) (j := i) (by omega))]
      simp [bs]

end Go.Proofs.YtedglcbeheeonaaDoor

namespace Go.Proofs.YtedglcbeheeonaaDoor
open Go Go.RowKit
set_option linter.unusedVariables false

/-- What both Gets answer: as the program has it, and the document. -/
structure GBoth (r : FG) (k : Nat) (p : List Nat) (nx rl : Nat) : Prop where
  eq : r = .bad rl ∧ k = 0 ∧ p = [] ∧ nx = 0 ∧ rl ≠ 0 ∨ r = .good k p nx ∧ rl = 0
  p8 : ∀ x ∈ p, x < 256
  pl : p.length ≤ 1500

theorem gboth {l : List Nat} {a : Int} (hb : ∀ x ∈ l, x < 256) (hn : l.length ≤ 1500) : ∃ k p nx rl, GBoth (frG l a) k p nx rl := by
  cases h : frG l a with
  | bad r => exact ⟨0, [], 0, r, .inl ⟨rfl, rfl, rfl, rfl, by have := frG_rule h; omega⟩, by simp, by simp⟩
  | good k p nx =>
    have ho : ¬ (a < 0 ∨ (l.length : Int) ≤ a) := fun ho => by rw [frG_out ho] at h; cases h
    obtain ⟨a, rfl⟩ : ∃ k : Nat, a = k := ⟨a.toNat, by omega⟩
    rw [frG_in (by omega)] at h
    obtain ⟨h1, h2, h3, h4, h5⟩ := frN_stands hb (by omega) h
    refine ⟨k, p, nx, 0, .inr ⟨rfl, rfl⟩, h5, ?_⟩
    rw [frS_length] at h1
    omega

theorem GBoth.prog {r : FG} {k nx rl : Nat} {p : List Nat} (h : GBoth r k p nx rl) {w : World} {e : Ending} {w' : World} (g : GetEnd r w e w') :
    ∃ A' c', e = .returned (.tuple #[.agg #[.int .u8 (k : Int), .slice A' p.length c'], .int .i64 (nx : Int), .int .i64 (rl : Int)]) ∧ w'.ownsRow w.heap.size 5 1 (.slice A' p.length c') p.length (bs p) ∧ Below w.heap.size w w' := by
  rcases h.eq with ⟨rfl, rfl, rfl, rfl, _⟩ | ⟨rfl, rfl⟩
  · exact ⟨none, 0, g.1, World.ownsRow_nil _ _ _ _, g.2⟩
  · exact g
theorem GBoth.docs {r : FG} {k nx rl : Nat} {p : List Nat} (h : GBoth r k p nx rl) {w : World} {e : Ending} {w' : World} (g : RGetEnd r w e w') :
    e = .returned (.tuple #[.agg #[.int .u8 (k : Int), .string (str p)], .int .i64 (nx : Int), .int .i64 (rl : Int)]) ∧ Below w.heap.size w w' := by
  rcases h.eq with ⟨rfl, rfl, rfl, rfl, _⟩ | ⟨rfl, rfl⟩
  · exact g
  · exact g

set_option maxRecDepth 100000 in
set_option maxHeartbeats 4000000 in
theorem fgets_any (n c : Nat) (A : Option Addr) (l : List Nat) (at_ : Int) (w : World) (hT : Tab w) (h : Rd w w.heap.size 1 A n (bs l)) (hb8 : ∀ x ∈ l, x < 256) (hbc : n ≤ c ∧ c ≤ 9223372036854775807) (hf : Free w A n) :
    Calls Tryd.prog 4 #[.slice A n c, .int .i64 at_] w fun e w' => e = .returned (.bool true) ∧ Below w.heap.size w w' := by
  have hw0 := hT.1
  have hln := h.count
  subst hln
  have HWK := Lib_hid fun W (hb : Below w.heap.size w W) => fworks_any W (hT.below hb hw0)
  by_cases hn : l.length ≤ 1500
  · obtain ⟨ds, t0, r, hs⟩ : ∃ ds t0 r, splitS l = (ds, t0, r) := ⟨_, _, _, rfl⟩
    obtain ⟨k, p, nx, rl, hgb⟩ := gboth (a := at_) hb8 hn
    have OW := own_any w.heap.size A l.length c l w h (by omega)
    have HRD := Lib_hid fun W (hb : Below w.heap.size w W) => h.below hb
    have HTB := Lib_hid fun W (hb : Below w.heap.size w W) => hT.below hb hw0
    have HGB := Lib_hid hgb
    have HS := Lib_hid hs
    have HB8 := Lib_hid hb8
    have HF := Lib_hid hf
    have HH := Lib_hid h
    have HTT := Lib_hid hT
    clear hgb hs hb8 hf h hT
    have hn' : ¬ ((1500 : Int) < (l.length : Int)) := by omega
    go_enter Tryd.func4, Tryd.ntmps4
    go_wp2_with fail
    refine OW.mono ?_
    intro e w1 hm
    rw [made_iff] at hm
    obtain ⟨A1, n1, c1, rfl, ho1, hb1⟩ := hm
    obtain rfl : n1 = l.length := by have := ho1.1; rw [bs_length] at this; omega
    have hr1 := Rd.own ho1
    have hc1 := own_cap ho1
    have hg1 := own_ge ho1
    have SP := rsplitf_any w1.heap.size A1 l.length c1 l w1 hr1 HB8.out hn hc1.1 (Nat.le_refl _)
    clear OW
    go_wp2_with fail
    refine SP.mono ?_
    rintro e w2 ⟨ds', t0', r', A2, c2, hs', hdl, rfl, ho2, hb2⟩
    have hse : (ds', t0', r') = (ds, t0, r) := hs'.symm.trans HS.out
    injection hse with h1 h2
    injection h2 with h2 h3
    subst h1 h2 h3
    clear SP hs'
    have hbw2 := hb1.trans (hb2.mono hb1.size)
    have hc2 := own_cap ho2
    have AL := all_any w.heap.size A l.length c l w2 (HRD.out _ hbw2) (by omega)
    go_wp2_with fail
    refine AL.mono ?_
    rintro e w3 ⟨A3, c3, rfl, ho3, hb3⟩
    clear AL
    have hbw3 := hbw2.trans (hb3.mono hbw2.size)
    have HR1 := Lib_hid fun W (hb : Below w3.heap.size w3 W) => (hr1.below (hb2.trans (hb3.mono hb2.size))).below (hb.mono (hb2.trans (hb3.mono hb2.size)).size)
    have HR2 := Lib_hid fun W (hb : Below w3.heap.size w3 W) => ((Rd.own ho2).below hb3).below (hb.mono hb3.size)
    have HO3 := Lib_hid ho3
    have HO2 := Lib_hid (own_below ho2 hb3 (own_lt ho2))
    have HO1 := Lib_hid (own_below (own_below ho1 hb2 (own_lt ho1)) (hb3.mono hb2.size) (fun k hk => by have := own_lt ho1 k hk; exact Nat.lt_of_lt_of_le this (Nat.le_refl _)))
    have HBW := Lib_hid hbw3
    have hsz3 := hbw3.size
    have hsz1 := hb1.size
    have hsz2 := hb2.size
    have hsz32 := hb3.size
    clear hr1 ho1 ho2 ho3 hb1 hb2 hb3 hbw2 hbw3 hg1
    go_wp2_with fail
    go_loopw [10] (fun v wr => ∃ t : Nat, v = .int .i64 t ∧ t ≤ 2 ∧ Below w3.heap.size w3 wr) (fun v _ => 2 - (intOf v).toNat)
    case atStart => exact ⟨0, rfl, by omega, Below.refl _ _⟩
    case round =>
      obtain ⟨t, rfl, ht, hbr⟩ := hrel
      by_cases hlt : t < 2
      · have hbw := HBW.out.trans (hbr.mono HBW.out.size)
        have hszr := hbr.size
        have G1 := fget_any w.heap.size A l.length c l at_ wr (HTB.out _ hbw) (HRD.out _ hbw) HB8.out hbc (by omega) (by omega)
        go_wp2_with fail
        refine G1.mono ?_
        intro e w4 hm
        obtain ⟨A4, c4, rfl, ho4, hb4⟩ := HGB.out.prog hm
        clear G1 hm
        have hbr4 := hbr.trans (hb4.mono hbr.size)
        have hge4 := own_ge ho4
        have hsz4 := hb4.size
        have hbx := below_new w4 (.cells #[.int .u8 (k : Int), .slice A4 p.length c4] 25)
        have hh := heap_alloc_new w4 (.cells #[.int .u8 (k : Int), .slice A4 p.length c4] 25)
        have hbr5 := hbr4.trans (hbx.mono hbr4.size)
        have ho5 := own_below ho4 hbx (own_lt ho4)
        have G2 := rgetf_any w1.heap.size A1 l.length c1 l at_ (w4.alloc (.cells #[.int .u8 (k : Int), .slice A4 p.length c4] 25)) (HR1.out _ hbr5) HB8.out hn hc1.1 (by simp; omega)
        clear hb4 ho4
        go_wp2_with fail
        refine G2.mono ?_
        intro e w5 hm
        obtain ⟨rfl, hb5⟩ := HGB.out.docs hm
        clear G2 hm
        have hbr6 := hbr5.trans (hb5.mono hbr5.size)
        have hh6 := (hb5.block w4.heap.size (by simp)).trans hh
        have hsz5 : w4.heap.size < w5.heap.size := by have := hb5.size; simp at this; omega
        have ho6 := own_below ho5 hb5 (own_lt ho5)
        have hbx2 := below_new w5 (.cells #[.int .u8 (k : Int), .string (str p)] 30)
        have hh7 := (heap_alloc_old w5 (.cells #[.int .u8 (k : Int), .string (str p)] 30) hsz5).trans hh6
        have hh8 := heap_alloc_new w5 (.cells #[.int .u8 (k : Int), .string (str p)] 30)
        have hbr7 := hbr6.trans (hbx2.mono hbr6.size)
        have ho7 := own_below ho6 hbx2 (own_lt ho6)
        have hsz7 : (w5.alloc (.cells #[.int .u8 (k : Int), .string (str p)] 30)).heap.size = w5.heap.size + 1 := by simp
        clear hb5 hbr6 hh6 ho6 hbx2 hh ho5 hbx hbr5 hbr4
        go_upto_region 11 with (fail)
        generalize w5.alloc (.cells #[.int .u8 (k : Int), .string (str p)] 30) = w6 at *
        have S0 : Hid (∀ W : World, Below w6.heap.size w6 W → W.cell? ⟨w4.heap.size, 0, none⟩ = some (.int .u8 (k : Int)) ∧ W.cell? ⟨w4.heap.size, 1, none⟩ = some (.slice A4 p.length c4) ∧ W.cell? ⟨w5.heap.size, 0, none⟩ = some (.int .u8 (k : Int)) ∧ W.cell? ⟨w5.heap.size, 1, none⟩ = some (.string (str p))) := fun W hW =>
          ⟨cell_of_row W _ 0 _ _ _ ((hW.block _ (by omega)).trans hh7), cell_of_row W _ 1 _ _ _ ((hW.block _ (by omega)).trans hh7), cell_of_row W _ 0 _ _ _ ((hW.block _ (by omega)).trans hh8), cell_of_row W _ 1 _ _ _ ((hW.block _ (by omega)).trans hh8)⟩
        have DF : Hid (∀ W : World, Below w6.heap.size w6 W → Calls Tryd.prog 9 #[.agg #[.int .u8 (k : Int), .slice A4 p.length c4]] W fun e w' => e = .returned (.agg #[.int .u8 (k : Int), .string (str p)]) ∧ Below W.heap.size W w') := fun W hW =>
          dframe_any w6.heap.size k A4 p.length c4 p W ((Rd.own ho7).below hW) hW.size
        have EQN := fun wx => neq_fr k k p p wx HGB.out.p8 HGB.out.p8
        rw [show sameF (k, p) (k, p) = true from sameF_eq.2 rfl] at EQN
        unfold dfv at EQN
        have ne2 : ((nx : Int) != (nx : Int)) = false := by simp
        have ne3 : ((rl : Int) != (rl : Int)) = false := by simp
        obtain ⟨d0, d1, d2, d3⟩ := S0.out w6 (Below.refl _ _)
        have HO7 := Lib_hid ho7
        have HGE := Lib_hid hge4
        clear hh7 hh8 ho7 hge4
        go_region_held3 (fun W => W.cell? ⟨w4.heap.size, 0, none⟩ = some (.int .u8 (k : Int)) ∧ W.cell? ⟨w4.heap.size, 1, none⟩ = some (.slice A4 p.length c4) ∧ W.cell? ⟨w5.heap.size, 0, none⟩ = some (.int .u8 (k : Int)) ∧ W.cell? ⟨w5.heap.size, 1, none⟩ = some (.string (str p)))
          (first | exact S0.out _ (below_like (Below.refl _ _) rfl rfl rfl rfl) | exact S0.out _ hbs)
          ((go_at_call 9; ((with_reducible refine (DF.out w6.drew (below_like (Below.refl _ _) rfl rfl rfl rfl)).mono ?_); rintro e ws ⟨rfl, hs'⟩; have hbs : Below w6.heap.size w6 ws := ⟨hs'.os, hs'.tape, hs'.output, hs'.size, hs'.block⟩)))
        all_goals
          have hbrs := hbr7.trans (hbs.mono hbr7.size)
          have hbws := HBW.out.trans (hbrs.mono HBW.out.size)
          have hszs := hbs.size
          have S3 := split_any w.heap.size A l.length c l ws (HTB.out _ hbws) (HRD.out _ hbws) HB8.out hbws.size (by omega)
          clear d0 d1 d2 d3 DF EQN ne2 ne3
          go_wp2_with fail
          refine S3.mono ?_
          rintro e w8 ⟨v, xs, t1, r1, rfl, hP, hs1, hb8'⟩
          have hse : (xs.map Ev.abs, t1, r1) = (ds', t0', r') := hs1.symm.trans HS.out
          injection hse with q1 q2
          injection q2 with q2 q3
          subst q2 q3
          obtain ⟨Av, cv, rfl, hcv⟩ := own_form hP.row
          have hxb : xs.length ≤ 1000000 := by
            have := congrArg List.length q1
            rw [List.length_map] at this
            omega
          have hbr8 := hbrs.trans (hb8'.mono hbrs.size)
          have SM := splaced_any ws.heap.size w8.heap.size Av xs.length cv A2 ds'.length c2 xs ds' w8 (Rd.own hP.row) (Nat.le_refl _) ((HR2.out _ hbr8).more (by omega)) hb8'.size hP.pay (fun x hx g hg ad e h0 => by
            obtain ⟨g', cap, hv, _, _⟩ := hP.row.form h0
            injection hv with hv
            rw [e] at hv
            injection hv with hv
            subst hv
            intro e2
            subst e2
            exact hP.apart x hx _ hg (by rw [e]; rfl)) hP.pair q1.symm hxb
          have HPO := Lib_hid fun x hx k (hk : x.sl.ownBlock = some k) => own_ge (hP.pay x hx).1 k hk
          have HX := Lib_hid q1
          have hsz8 := hb8'.size
          clear S3 hP hs1 q1
          have ne4 : ((t1 : Int) != (t1 : Int)) = false := by simp
          have ne5 : ((r1 : Int) != (r1 : Int)) = false := by simp
          go_wp2_with fail
          refine SM.mono ?_
          rintro e w9 ⟨rfl, hpb⟩
          have hb9 := hpb.below (B := ws.heap.size) hsz8 HPO.out
          have hbs9 : Below w6.heap.size w6 w9 := hbs.trans ((hb8'.mono hszs).trans (hb9.mono hszs))
          have hbr9 := hbr7.trans (hbs9.mono hbr7.size)
          obtain ⟨d0, d1, d2, d3⟩ := S0.out w9 hbs9
          have ho9 := own_below HO7.out hbs9 (own_lt HO7.out)
          have SO := spoil_any wr.heap.size p.length c4 A4 (bs p) w9 ho9 (by have := HGB.out.pl; omega)
          clear SM hpb hb9 hbs9 ne4 ne5
          go_wp2_with fail
          refine SO.mono ?_
          rintro e w10 ⟨rfl, hg⟩
          have hb10 := hbr9.grown hg hbr9.size (fun k hk => by have := HGE.out k hk; omega)
          clear SO
          go_wp2_with fail
          go_roundw
          case rel => exact ⟨t + 1, by go_num, by omega, hb10⟩
          case measure => simp [intOf]; omega
      · obtain rfl : t = 2 := by omega
        have hbw := HBW.out.trans (hbr.mono HBW.out.size)
        have hszr := hbr.size
        have SY := same_yes (c := c1) (c' := c) l wr (HR1.out _ hbr) (HRD.out _ hbw) (by omega)
        have HBR := Lib_hid hbr
        clear hbr hbw
        go_wp2_with fail
        refine SY.mono ?_
        rintro e wq ⟨rfl, q, hq⟩
        have hbrq : Below w3.heap.size w3 wq := by rw [hq]; exact below_like HBR.out rfl rfl rfl rfl
        have hbwq := HBW.out.trans (hbrq.mono HBW.out.size)
        have hszq := hbrq.size
        have hrq := HRD.out _ hbwq
        have hAw : ∀ ad, 0 < l.length → A = some ad → ad.block < w.heap.size := fun ad h0 e => by
          obtain ⟨ad', e', hb, _⟩ := HH.out.lies h0
          rw [e] at e'; injection e' with e'; rw [e']; exact hb
        have hfq : Free wq A l.length := fun ad e i hi => (hbwq.frozen (p := ⟨ad.block, ad.off + i, none⟩) (hAw ad (by omega) e)).trans (HF.out ad e i hi)
        have SB := spoilb_any w.heap.size l.length c A l wq wq hrq (But.refl hrq) hfq (by omega)
        have HRQ := Lib_hid hrq
        have HFQ := Lib_hid hfq
        have HTQ := Lib_hid (HTB.out _ hbwq)
        have HBRQ := Lib_hid hbrq
        have HBWQ := Lib_hid hbwq
        have HAW := Lib_hid hAw
        clear SY hq hrq hfq hbrq hbwq hAw HBR
        go_wp2_with fail
        refine SB.mono ?_
        rintro e w11 ⟨rfl, hbt⟩
        have hsz11 := hbt.size
        have HK : Hid (∀ k, w.heap.size ≤ k → k < w3.heap.size → w11.heap[k]? = w3.heap[k]?) := fun k h1 h2 => (hbt.other k (by omega) (fun h0 ad e e2 => by have := HAW.out ad h0 e; omega)).trans (HBRQ.out.block k h2)
        have HBT := Lib_hid hbt
        have o1 := own_keep HO1.out (fun k hk => HK.out k (by have := own_ge HO1.out k hk; omega) (own_lt HO1.out k hk))
        have o2 := own_keep HO2.out (fun k hk => HK.out k (by have := own_ge HO2.out k hk; omega) (own_lt HO2.out k hk))
        have o3 := own_keep HO3.out (fun k hk => HK.out k (by have := own_ge HO3.out k hk; omega) (own_lt HO3.out k hk))
        have hA3 : ∀ ad, A3 = some ad → ad.block < w11.heap.size := by
          intro ad e
          obtain ⟨g, hg⟩ : ∃ g, (Value.slice A3 l.length c3).ownBlock = some g := by
            rcases o3.2 with ⟨h, _⟩ | ⟨g, cap, cur, h, _⟩
            · rw [e] at h; cases h
            · rw [h]; exact ⟨g, rfl⟩
          have h1 := own_lt o3 g hg
          rw [e] at hg
          simp [Value.ownBlock] at hg
          omega
        have hc3 := own_cap o3
        have hT11 := hbt.tab HRQ.out HTQ.out
        have T1 := told_any w11.heap.size A3 c3 l A2 c2 ds' t0' r' ((ds'.length : Int) + 1) w11 hT11 (Rd.own o3) hA3 HB8.out hc3 (by omega) (Rd.own o2) (Nat.le_refl _) hc2 HS.out
        have HO1' := Lib_hid o1
        have HO2' := Lib_hid o2
        have HO3' := Lib_hid o3
        have HA3 := Lib_hid hA3
        have HT11 := Lib_hid hT11
        clear SB hbt o1 o2 o3 hA3 hT11
        go_wp2_with fail
        refine T1.mono ?_
        rintro e w12 ⟨rfl, hb12⟩
        have hsz12 := hb12.size
        have T2 := told_any w12.heap.size A3 c3 l A2 c2 ds' t0' r' 1 w12 (HT11.out.below hb12 HT11.out.1) (Rd.own (own_below HO3'.out hb12 (own_lt HO3'.out))) (fun ad e => Nat.lt_of_lt_of_le (HA3.out ad e) hb12.size) HB8.out hc3 (by omega) (Rd.own (own_below HO2'.out hb12 (own_lt HO2'.out))) (Nat.le_refl _) hc2 HS.out
        have HB12 := Lib_hid hb12
        clear T1 hb12
        go_wp2_with fail
        refine T2.mono ?_
        rintro e w13 ⟨rfl, hb13⟩
        have hb13' := HB12.out.trans (hb13.mono HB12.out.size)
        have hbt13 := HBT.out.below hb13' (fun ad h0 e => by have := HAW.out ad h0 e; omega)
        obtain ⟨w14, hcp, hb14⟩ := copyb (c := c) (c' := c1) HRQ.out hbt13 HFQ.out (Rd.own (own_below HO1'.out hb13' (own_lt HO1'.out)))
        have HB14 := Lib_hid (HBWQ.out.trans (hb14.mono HBWQ.out.size))
        have HCP := Lib_hid hcp
        clear T2 hb13 hb13' hbt13 hb14 hcp
        go_wp2_with (with_reducible refine Go.Lib.wpList_copy_run w13 rfl (.tmp 111) (.tmp 112) 23 23 rfl (.slice A l.length c) (.slice A1 l.length c1) rfl rfl (HCP.out _) ?_)
        refine (HWK.out _ HB14.out).mono ?_
        rintro e w15 ⟨rfl, hb15⟩
        have hbf := HB14.out.trans (hb15.mono HB14.out.size)
        go_wp2_with fail
        go_ret
        exact ⟨rfl, hbf⟩
  · have hn' : (1500 : Int) < (l.length : Int) := by omega
    go_enter Tryd.func4, Tryd.ntmps4
    go_wp2_with fail
    refine (HWK.out _ (Below.refl _ _)).mono ?_
    rintro e w1 ⟨rfl, hb1⟩
    go_wp2_with fail
    go_ret
    exact ⟨rfl, hb1⟩

end Go.Proofs.YtedglcbeheeonaaDoor

namespace Go.Proofs.YtedglcbeheeonaaDoor
open Go Go.RowKit
set_option linter.unusedVariables false

/-- A row of frames of the call's own, each with a payload of its own. -/
structure KnR (B : Nat) (w : World) (v : Value) (fs : List FrV) (ds : List (Nat × List Nat)) : Prop where
  len : fs.length = ds.length
  row : w.ownsRow B 25 2 v fs.length (frCells fs)
  pay : ∀ (j : Nat) (f : FrV) (d : Nat × List Nat), fs[j]? = some f → ds[j]? = some d → f.k = d.1 ∧ d.1 < 256 ∧ w.ownsRow B 5 1 (.slice f.A f.n f.c) f.n (bs d.2) ∧ (∀ x ∈ d.2, x < 256) ∧ d.2.length ≤ 140
theorem KnR.nil (B : Nat) (w : World) : KnR B w (.slice none 0 0) [] [] := ⟨rfl, World.ownsRow_nil _ _ _ _, by simp⟩
theorem KnR.below {B : Nat} {w w' : World} {v : Value} {fs : List FrV} {ds : List (Nat × List Nat)} (h : KnR B w v fs ds) (hb : Below w.heap.size w w') : KnR B w' v fs ds :=
  ⟨h.len, own_below h.row hb (own_lt h.row), fun j f d h1 h2 => let ⟨a, b, c, e⟩ := h.pay j f d h1 h2; ⟨a, b, own_below c hb (own_lt c), e⟩⟩
theorem KnR.frRow {B : Nat} {w : World} {v : Value} {fs : List FrV} {ds : List (Nat × List Nat)} (h : KnR B w v fs ds) : FrRow w w.heap.size fs ds :=
  ⟨h.len, fun j f d h1 h2 => let ⟨a, b, c, e, _⟩ := h.pay j f d h1 h2; ⟨a, b, Rd.own c, e, own_cap c⟩⟩
theorem KnR.push {B : Nat} {w w' : World} {v v' : Value} {fs : List FrV} {ds : List (Nat × List Nat)} {f : FrV} {d : Nat × List Nat} (h : KnR B w v fs ds) (h1 : f.k = d.1) (h2 : d.1 < 256) (h3 : w.ownsRow B 5 1 (.slice f.A f.n f.c) f.n (bs d.2)) (h4 : ∀ x ∈ d.2, x < 256) (h5 : d.2.length ≤ 140)
    (ho : w'.ownsRow B 25 2 v' (fs.length + 1) (frCells fs ++ frCells [f])) (hs : Stp w w' v v') : KnR B w' v' (fs ++ [f]) (ds ++ [d]) := by
  have hl := h.len
  have key : ∀ (f : FrV) (l : List Nat), w.ownsRow B 5 1 (.slice f.A f.n f.c) f.n (bs l) → w'.ownsRow B 5 1 (.slice f.A f.n f.c) f.n (bs l) := fun f l hf =>
    own_keep hf fun k hk => hs.grow.block k (own_lt hf k hk) (fun e => ne_block hf h.row (by decide) k hk e.symm)
  refine ⟨by simp [hl], by rw [List.length_append, frCells_append]; exact ho, fun j f' d' g1 g2 => ?_⟩
  rcases Nat.lt_trichotomy j fs.length with hj | hj | hj
  · rw [List.getElem?_append_left hj] at g1
    rw [List.getElem?_append_left (by omega)] at g2
    obtain ⟨a, b, c, e⟩ := h.pay j f' d' g1 g2
    exact ⟨a, b, key _ _ c, e⟩
  · subst hj
    rw [List.getElem?_append_right (Nat.le_refl _), Nat.sub_self] at g1
    rw [List.getElem?_append_right (by omega), hl, Nat.sub_self] at g2
    simp at g1 g2
    subst g1 g2
    exact ⟨h1, h2, key _ _ h3, h4, h5⟩
  · rw [List.getElem?_eq_none (by simp; omega)] at g1
    cases g1

theorem u8w (x : Nat) : IntKind.u8.wrap (x : Int) = ((x % 256 : Nat) : Int) := by
  simp [IntKind.wrap, IntKind.bits, IntKind.signed]

theorem made_zero (s : Nat) : (madeCells (Value.int .u8 0).cells (s * 1)).toList = bs (List.replicate s 0) := by
  apply List.ext_getElem?
  intro i
  simp only [madeCells, bs, Value.cells, Nat.mul_one]
  by_cases h : i < s
  · simp [h, Nat.mod_one]
  · simp [h]

theorem free_own {w : World} {B n c : Nat} {A : Option Addr} {xs : List Value} (h : w.ownsRow B 5 1 (.slice A n c) n xs) : Free w A n := by
  intro ad e i hi
  obtain ⟨g, cap, hv, _, _⟩ := h.form (by omega)
  have hA : A = some ⟨g, 0, none⟩ := by injection hv
  rw [hA] at e
  injection e with e
  subst e
  rw [Nat.zero_add]
  subst hA
  exact h.frozenAt i

/-- b[:k] of a row of the call's own, at its head. -/
theorem slice_own {w : World} {B g n c k : Nat} {l : List Nat} (h : w.ownsRow B 5 1 (.slice (some ⟨g, 0, none⟩) n c) n (bs l)) (hk : k ≤ n) (hn : 0 < n) :
    (∀ wx, (Instr.slice 23 (.slice (some ⟨g, 0, none⟩) n c) none (some (.int .i64 (k : Int))) none).run Tryd.prog wx = .ok (.slice (some ⟨g, 0, none⟩) k c) wx) ∧ Rd w w.heap.size 1 (some ⟨g, 0, none⟩) k (bs (l.take k)) ∧ Free w (some ⟨g, 0, none⟩) k := by
  have hc := own_cap h
  refine ⟨fun wx => ?_, by rw [bs_take]; have := (Rd.own h).take hk; rwa [Nat.mul_one] at this, fun ad e i hi => free_own h ad e i (by omega)⟩
  rw [run_slice_h wx 23 (some ⟨g, 0, none⟩) n c (by rw [elem_bytes]; exact Tryd.underlying23) .i64 k (by omega) (by omega), elem_bytes, size_byte]
  have : c ≠ 0 := by omega
  simp [sliced, Result.andThen, this, Addr.add]

end Go.Proofs.YtedglcbeheeonaaDoor

namespace Go.Proofs.YtedglcbeheeonaaDoor
open Go Go.RowKit
set_option linter.unusedVariables false

set_option maxRecDepth 100000 in
set_option maxHeartbeats 12800000 in
theorem fknown_any (w : World) (hT : Tab w) : Calls Tryd.prog 6 #[] w fun e w' => e = .returned (.bool true) ∧ Below w.heap.size w w' := by
  have hw0 := hT.1
  obtain ⟨i25, hi25, hx0, hx1, hx2⟩ := info_parts Tryd.info25
  obtain ⟨i5, hi5, hy0, hy1, hy2⟩ := info_parts Tryd.info5
  have HTB := Lib_hid fun W (hb : Below w.heap.size w W) => hT.below hb hw0
  clear hT
  go_enter Tryd.func6, Tryd.ntmps6
  go_wp2
  go_loopw [1, 2] (fun x y wr => ∃ k i : Nat, x = .int .i64 k ∧ y = .int .i64 i ∧ k < 100003 ∧ i ≤ 60 ∧ Below w.heap.size w wr) (fun _ y _ => 60 - (intOf y).toNat)
  case atStart => exact ⟨1, 0, rfl, rfl, by omega, by omega, Below.refl _ _⟩
  case round =>
    obtain ⟨k, i, rfl, rfl, hk, hi, hbw⟩ := hrel
    have hszw := hbw.size
    by_cases hlt : i < 60
    · obtain ⟨wo, rfl⟩ : ∃ wo : World, wo = wr := ⟨_, rfl⟩
      have hd60 : decide ((i : Int) < 60) = true := by simp; omega
      go_wp2
      go_loopw [1, 3, 4] (fun x y v wr => ∃ (k n : Nat) (A : Option Addr) (c : Nat) (fs : List FrV) (ds : List (Nat × List Nat)), x = .int .i64 k ∧ y = .slice A fs.length c ∧ v = .int .i64 n ∧ k < 100003 ∧ n ≤ 4 ∧ fs.length = n ∧ KnR wo.heap.size wr (.slice A fs.length c) fs ds ∧ Below wo.heap.size wo wr) (fun _ _ v _ => 5 - (intOf v).toNat)
      case atStart => exact ⟨k, 0, none, 0, [], [], rfl, rfl, rfl, hk, by omega, rfl, KnR.nil _ _, Below.refl _ _⟩
      case round =>
        clear hk
        obtain ⟨k, n, A, c, fs, ds, rfl, rfl, rfl, hk, hn, hfl, hK, hb⟩ := hrel
        by_cases hl : (n : Int) < (i : Int) % 5
        · have hK0 := Lib_hid hK
          have HFL := Lib_hid hfl
          have hszo := hb.size
          obtain ⟨kb, hkb⟩ : ∃ kb, kb = k % 256 := ⟨_, rfl⟩
          have hku : IntKind.u8.wrap (k : Int) = (kb : Int) := by rw [u8w, hkb]
          have hkb8 : kb < 256 := by omega
          obtain ⟨z, hz⟩ : ∃ z, (n = 0 ∧ z = 3) ∨ (n = 1 ∧ z = 140) ∨ (n = 2 ∧ z = 9) ∨ (n = 3 ∧ z = 30) := by
            have : n = 0 ∨ n = 1 ∨ n = 2 ∨ n = 3 := by omega
            rcases this with rfl | rfl | rfl | rfl
            · exact ⟨3, .inl ⟨rfl, rfl⟩⟩
            · exact ⟨140, .inr (.inl ⟨rfl, rfl⟩)⟩
            · exact ⟨9, .inr (.inr (.inl ⟨rfl, rfl⟩))⟩
            · exact ⟨30, .inr (.inr (.inr ⟨rfl, rfl⟩))⟩
          obtain ⟨s, hs⟩ : ∃ s, s = k % z := ⟨_, rfl⟩
          have hs140 : s < 140 := by
            rcases hz with ⟨_, rfl⟩ | ⟨_, rfl⟩ | ⟨_, rfl⟩ | ⟨_, rfl⟩ <;> omega
          have HSS := Lib_hid hs140
          have HSK := Lib_hid hs
          clear hkb hK hfl hs
          rename World => wr
          have GOAL : True := trivial
          rcases hz with ⟨rfl, rfl⟩ | ⟨rfl, rfl⟩ | ⟨rfl, rfl⟩ | ⟨rfl, rfl⟩
          all_goals
            go_wp2_with (refine wpList_make_full _ rfl (.tmp 29) (.tmp 29) 23 rfl wr.heap.size 5 i5 (.int .u8 0) 1 Tryd.underlying23 hi5 hy0 hy1 .i64 .i64 _ _ s rfl rfl (by have := HSK.out; omega) (by have := HSK.out; omega) (by rw [hy2]; omega) (by unfold maxLen; omega) (by simp) ?_; intro w1 hown1 hg1)
            rw [made_zero] at hown1
            have hbA : Below wr.heap.size wr w1 := ((Below.refl _ wr).alloc (Nat.le_refl _) (.cells #[.int .i64 3, .int .i64 140, .int .i64 9, .int .i64 30] 3)).grown hg1 (by simp) (fun k hk => by cases hk)
            simp only [World.size_alloc] at hown1 ⊢
            have hsz1 : wr.heap.size + 1 < w1.heap.size := own_lt hown1 _ rfl
            have hox := own_below hown1 (below_new w1 (.cells #[.int .u8 (kb : Int), .slice (some ⟨wr.heap.size + 1, 0, none⟩) s s] 25)) (own_lt hown1)
            have hbx := heap_alloc_new w1 (.cells #[.int .u8 (kb : Int), .slice (some ⟨wr.heap.size + 1, 0, none⟩) s s] 25)
            have hbB := hbA.alloc hbA.size (.cells #[.int .u8 (kb : Int), .slice (some ⟨wr.heap.size + 1, 0, none⟩) s s] 25)
            have hrep : ∀ y ∈ List.replicate s 0, y < 256 := by intro y hy; rw [(List.mem_replicate.1 hy).2]; omega
            have hszA := hbA.size
            clear hown1 hbA hg1
            go_loopw [6] (fun x W => ∃ (m : Nat) (ys : List Nat), x = .int .i64 m ∧ m ≤ s ∧ W.ownsRow wr.heap.size 5 1 (.slice (some ⟨wr.heap.size + 1, 0, none⟩) s s) s (bs ys) ∧ (∀ y ∈ ys, y < 256) ∧ W.heap[w1.heap.size]? = some (.cells #[.int .u8 (kb : Int), .slice (some ⟨wr.heap.size + 1, 0, none⟩) s s] 25 (0, 0)) ∧ Below wr.heap.size wr W) (fun x _ => s - (intOf x).toNat)
            case atStart => exact ⟨0, _, rfl, Nat.zero_le _, hox, hrep, hbx, hbB⟩
            case round =>
              clear hox hbx hbB hrep
              obtain ⟨m, ys, rfl, hm, ho, hys, hbx, hbW⟩ := hrel
              rename World => W
              have hszW := hbW.size
              have hgl := (Array.getElem?_eq_some_iff.1 hbx).1
              have c0 := cell_of_row W _ 0 _ _ _ hbx
              have c1 := cell_of_row W _ 1 _ _ _ hbx
              have hyl : ys.length = s := by have := ho.1; rw [bs_length] at this; omega
              by_cases hml : m < s
              · obtain ⟨q, hq⟩ : ∃ q, q = m * k := ⟨_, rfl⟩
                have hq1 : (0 : Int) ≤ (m : Int) * (k : Int) := by rw [← Int.natCast_mul]; omega
                have hq2 : (m : Int) * (k : Int) ≤ 14000420 := by
                  rw [← Int.natCast_mul]
                  have : m * k ≤ 140 * 100003 := Nat.mul_le_mul (by omega) (by omega)
                  omega
                obtain ⟨u, hu⟩ : ∃ u, u = m * k % 256 := ⟨_, rfl⟩
                have hqw : IntKind.u8.wrap ((m : Int) * (k : Int)) = (u : Int) := by rw [← Int.natCast_mul, u8w, hu]
                have hu8 : u < 256 := by omega
                obtain ⟨uv, huv⟩ : ∃ uv : Nat, (bs ys)[m]? = some (.int .u8 (uv : Int)) := ⟨_, bs_get (by omega)⟩
                have hc := (ho.cellAt m (by omega)).trans huv
                have hf := ho.frozenAt m
                have ST := ho.stored m (.int .u8 (u : Int))
                rw [← bs_set] at ST
                have hys' : ∀ y ∈ ys.set m u, y < 256 := by
                  intro y hy
                  rcases List.mem_or_eq_of_mem_set hy with hy | rfl
                  · exact hys y hy
                  · exact hu8
                have hbx' : (W.setCell ⟨wr.heap.size + 1, m, none⟩ (.int .u8 (u : Int))).heap[w1.heap.size]? = some (.cells #[.int .u8 (kb : Int), .slice (some ⟨wr.heap.size + 1, 0, none⟩) s s] 25 (0, 0)) :=
                  (ST.2.block _ hgl (fun e => by have e2 : w1.heap.size = wr.heap.size + 1 := Option.some.inj e; omega)).trans hbx
                have hbW' := hbW.grown ST.2 hbW.size (fun k hk => by simp at hk; omega)
                have HU := Lib_hid (And.intro ST.1 (And.intro hys' (And.intro hbx' hbW')))
                clear hq hu ho hys hbx hbW ST hys' hbx' hbW' huv hyl
                go_wp2
                go_roundw
                case rel => exact ⟨m + 1, _, by go_num, by omega, HU.out.1, HU.out.2.1, HU.out.2.2.1, HU.out.2.2.2⟩
                case measure => simp [intOf]; omega
              · obtain rfl : s = m := by omega
                have hK1 := hK0.out.below hbW
                have hnw : Rd (W.alloc (.cells #[.int .u8 (kb : Int), .slice (some ⟨wr.heap.size + 1, 0, none⟩) s s] 25)) (W.heap.size + 1) 2 (some ⟨W.heap.size, 0, none⟩) 1 (frCells [⟨kb, some ⟨wr.heap.size + 1, 0, none⟩, s, s⟩]) := fr_in_row (cs := frCells [⟨kb, some ⟨wr.heap.size + 1, 0, none⟩, s, s⟩]) (heap_alloc_new W _) (by omega) rfl
                have hm1 : fs.length + 1 ≤ maxLen := by unfold maxLen; have := HFL.out; omega
                have hm2 : (fs.length + 1) * 32 ≤ 140737488355328 := by have := HFL.out; omega
                have hsB : ∀ o, wo.heap.size ≤ (W.alloc o).heap.size := by intro o; simp; omega
                have hKA := hK1.below (below_new W (.cells #[.int .u8 (kb : Int), .slice (some ⟨wr.heap.size + 1, 0, none⟩) s s] 25))
                have hpA := own_base (b' := wo.heap.size) (own_below ho (below_new W (.cells #[.int .u8 (kb : Int), .slice (some ⟨wr.heap.size + 1, 0, none⟩) s s] 25)) (own_lt ho)) (fun k hk => by simp [Value.ownBlock] at hk; omega)
                have hbWo := hb.trans (hbW.mono hszo)
                have HKA := Lib_hid hKA
                have HPA := Lib_hid hpA
                have HYS := Lib_hid hys
                have HYL := Lib_hid hyl
                clear hml hm ho hys hbx hK1 hKA hpA hyl hbW
                go_wp2_with (at_builtin; (refine wpList_app rfl _ _ 22 rfl wo.heap.size 25 i25 (.agg #[.int .u8 0, .slice none 0 0]) 2 32 Tryd.underlying22 hi25 hx0 hx1 hx2 rfl (by decide) _ fs.length _ rfl HKA.out.row (W.heap.size + 1) (some ⟨W.heap.size, 0, none⟩) 1 1 (frCells [⟨kb, some ⟨wr.heap.size + 1, 0, none⟩, s, s⟩]) rfl hnw (fr_one _) hm1 hm2 (hsB _) ?_); intro v' wy hown' hst; obtain ⟨A5, c5, rfl, _⟩ := own_form hown')
                have hb5 := (hbWo.alloc hbWo.size (.cells #[.int .u8 (kb : Int), .slice (some ⟨wr.heap.size + 1, 0, none⟩) s s] 25)).trans (hst.below (hsB _) (own_ge HKA.out.row))
                have hK5 := HKA.out.push (f := ⟨kb, some ⟨wr.heap.size + 1, 0, none⟩, s, s⟩) (d := (kb, ys)) rfl hkb8 HPA.out HYS.out (by rw [HYL.out]; omega) hown' hst
                have hl5 : (fs ++ [(⟨kb, some ⟨wr.heap.size + 1, 0, none⟩, s, s⟩ : FrV)]).length = fs.length + 1 := by simp
                clear hst hown' hnw hsB hbWo c0 c1
                go_wp2
                go_roundw
                case rel => exact ⟨(k * 31 + 7 * fs.length + 11) % 100003, fs.length + 1, A5, c5, fs ++ [⟨kb, some ⟨wr.heap.size + 1, 0, none⟩, s, s⟩], ds ++ [(kb, ys)], by have := HFL.out; congr 1; omega, by rw [hl5], by rw [HFL.out]; rfl, by omega, by have := HFL.out; omega, hl5, by rw [hl5]; exact hK5, hb5⟩
                case measure => simp [intOf]
        · have hbwr := hbw.trans (hb.mono hszw)
          obtain ⟨wl, rfl⟩ : ∃ wl : World, wl = wr := ⟨_, rfl⟩
          have hszl := hbwr.size
          have HFR : Hid (∀ W, Below wl.heap.size wl W → FrRow W wl.heap.size fs ds ∧ Rd W wl.heap.size 2 A fs.length (frCells fs)) := fun W hW => ⟨hK.frRow.below hW, (Rd.own hK.row).below hW⟩
          have HPL : Hid (∀ (j : Nat) (d : Nat × List Nat), ds[j]? = some d → d.2.length ≤ 140) := fun j d hd => by
            have hj := (List.getElem?_eq_some_iff.1 hd).1
            have hlk := hK.len
            exact (hK.pay j _ d (List.getElem?_eq_getElem (by omega)) hd).2.2.2.2
          have hfl4 : fs.length ≤ 4 := by omega
          have hlk := Lib_hid hK.len
          have HBW := Lib_hid hbwr
          clear hK hb hbwr hfl hbw
          have hiu : IntKind.u8.wrap (i : Int) = (i : Int) := by rw [u8w]; omega
          obtain ⟨kb, hkb⟩ : ∃ kb, kb = k % 256 := ⟨_, rfl⟩
          have hku : IntKind.u8.wrap (k : Int) = (kb : Int) := by rw [u8w, hkb]
          have hkb8 : kb < 256 := by omega
          clear hkb
          go_wp2
          go_loopw [7, 8] (fun x y W => ∃ (n nb cb : Nat) (Ab : Option Addr) (lb : List Nat), x = .slice Ab nb cb ∧ y = .int .i64 n ∧ n ≤ fs.length ∧ W.ownsRow wl.heap.size 5 1 (.slice Ab nb cb) nb (bs lb) ∧ (∀ y ∈ lb, y < 256) ∧ nb ≤ n * 200 ∧ Below wl.heap.size wl W) (fun _ y _ => fs.length - (intOf y).toNat)
          case atStart => exact ⟨0, 0, 0, none, [], rfl, rfl, Nat.zero_le _, World.ownsRow_nil _ _ _ _, by simp, by omega, Below.refl _ _⟩
          case round =>
            obtain ⟨n, nb, cb, Ab, lb, rfl, rfl, hn, ho, hlb, hnb, hbW⟩ := hrel
            rename World => W
            have hszW := hbW.size
            by_cases hlt : n < fs.length
            · obtain ⟨b, off, kf, A2, m, c2, p, rfl, hbB, hd, c0, c1, hk8, hp, hp8, hmc, hc2⟩ := (HFR.out W hbW).1.at (HFR.out W hbW).2 hlt
              have hpl : p.length ≤ 140 := HPL.out _ _ hd
              have hmp : p.length = m := hp.count
              have hfs := frS_length kf p
              have hten := enc_ten (v := p.length) (by omega)
              have DF := dframe_any wl.heap.size kf A2 m c2 p W hp hszW
              have HP8 := Lib_hid hp8
              have HLB := Lib_hid hlb
              have HMP := Lib_hid hmp
              have HFS : Hid ((frS kf p).length ≤ 160) := by unfold Hid; omega
              clear hp8 hlb hmp hfs hten hp hd
              go_wp2_with fail
              refine DF.mono ?_
              rintro e w5 ⟨rfl, hb5⟩
              have ho5 := own_below ho hb5 (own_lt ho)
              have hbW5 := hbW.trans (hb5.mono hszW)
              have RP := rfput_any kf p w5 hk8 HP8.out (by omega)
              unfold dfv
              clear DF ho hb5 hbW
              go_wp2_with fail
              refine RP.mono ?_
              intro e w6 hm
              rw [made_iff] at hm
              obtain ⟨A6, n6, c6, rfl, ho6, hb6⟩ := hm
              have hn6 : n6 ≤ 160 := by have := ho6.1; rw [bs_length] at this; have := HFS.out; omega
              have ho7 := own_below ho5 hb6 (own_lt ho5)
              have hbW6 := hbW5.trans (hb6.mono hbW5.size)
              have hm1 : nb + n6 ≤ maxLen := by unfold maxLen; omega
              have hm2 : (nb + n6) * 1 ≤ 140737488355328 := by omega
              have hsB := hbW6.size
              clear RP ho5 hb6 hbW5
              go_wp2_with (at_builtin; (refine wpList_app rfl _ _ 23 rfl wl.heap.size 5 i5 (.int .u8 0) 1 1 Tryd.underlying23 hi5 hy0 hy1 hy2 rfl (by decide) _ nb _ rfl ho7 w6.heap.size A6 n6 c6 (bs (frS kf p)) rfl (Rd.own ho6) (bs_one _) hm1 hm2 hsB ?_); intro v' w7 hown' hst; obtain ⟨A7, c7, rfl, _⟩ := own_form hown')
              rw [← bs_append] at hown'
              have hb7 := hbW6.trans (hst.below hsB (own_ge ho7))
              have HO7 := Lib_hid hown'
              have hby : ∀ y ∈ lb ++ frS kf p, y < 256 := by
                intro y hy
                rcases List.mem_append.1 hy with hy | hy
                · exact HLB.out y hy
                · exact frS_byte hk8 HP8.out y hy
              have HBY := Lib_hid hby
              clear hst hown' hby ho6 ho7 hsB
              go_wp2
              go_roundw
              case rel => exact ⟨n + 1, nb + n6, c7, A7, lb ++ frS kf p, rfl, by go_num, by omega, HO7.out, HBY.out, by omega, hb7⟩
              case measure => simp [intOf]; omega
            · obtain rfl : n = fs.length := by omega
              clear hn hlt
              have hbwW := HBW.out.trans (hbW.mono HBW.out.size)
              have F1 := fputs_any W.heap.size A fs.length c fs ds i none 0 0 [] W (HTB.out _ hbwW) ((HFR.out W hbW).2.more hszW) ((HFR.out W hbW).1.more hszW) rfl (by omega) (by omega) Rd.zero (by simp)
              have HO := Lib_hid ho
              have HLB := Lib_hid hlb
              have hcb := own_cap ho
              have hn7 : (0 : Int) ≤ (i : Int) % 7 := by omega
              clear hbwW ho hlb
              go_wp2_with fail
              refine F1.mono ?_
              rintro e wa ⟨rfl, hba⟩
              have hba0 := hbW.trans (hba.mono hszW)
              have hbwa := HBW.out.trans (hba0.mono HBW.out.size)
              have F2 := fgets_any nb cb Ab lb ((i : Int) % 7) wa (HTB.out _ hbwa) (Rd.own (own_below HO.out hba (own_lt HO.out))) HLB.out hcb (free_own (own_below HO.out hba (own_lt HO.out)))
              have HBA := Lib_hid hba
              clear F1 hbwa
              go_wp2_with fail
              refine F2.mono ?_
              rintro e wb ⟨rfl, hbb⟩
              have hbb1 := HBA.out.trans (hbb.mono HBA.out.size)
              have hbb0 := hbW.trans (hbb1.mono hszW)
              have hbwb := HBW.out.trans (hbb0.mono HBW.out.size)
              have hszb := hbb1.size
              have hrb := Rd.own (own_below HO.out hbb1 (own_lt HO.out))
              have F3 := fback_any wb.heap.size A fs.length c fs ds Ab nb cb lb (i : Int) (k : Int) i 1 0 kb wb (HTB.out _ hbwb) ((HFR.out wb hbb0).2.more (by omega)) ((HFR.out wb hbb0).1.more (by omega)) rfl (by omega) hrb HLB.out hcb (by omega) (by omega) (by omega) hkb8
              simp only [show ((1 : Nat) : Int) = 1 from rfl, show ((0 : Nat) : Int) = 0 from rfl] at F3
              have HBB := Lib_hid hbb1
              clear F2 hbb hbb0 hbwb hrb hba0
              go_wp2_with fail
              refine F3.mono ?_
              rintro e wc ⟨rfl, hbc⟩
              have hbc1 := HBB.out.trans (hbc.mono HBB.out.size)
              have hbc0 := hbW.trans (hbc1.mono hszW)
              have HBC := Lib_hid (HBW.out.trans (hbc0.mono HBW.out.size))
              have HOC := Lib_hid (own_below HO.out hbc1 (own_lt HO.out))
              clear F3 hbc hbc1 hbc0 hbW
              go_wp2
              go_loopw [9] (fun x Wn => ∃ n : Nat, x = .int .i64 n ∧ n ≤ nb ∧ Below wc.heap.size wc Wn) (fun x _ => nb - (intOf x).toNat)
              case atStart => exact ⟨0, rfl, Nat.zero_le _, Below.refl _ _⟩
              case round =>
                obtain ⟨n, rfl, hnn, hbn⟩ := hrel
                rename World => Wn
                have hszn := hbn.size
                have hbwn := HBC.out.trans (hbn.mono HBC.out.size)
                have hbo := own_below HOC.out hbn (own_lt HOC.out)
                by_cases hnl : n < nb
                · by_cases h6 : (i : Int) % 6 = 3
                  · have h6t : ((i : Int) % 6 == 3) = true := by simp [h6]
                    obtain ⟨gb, capb, hvb, _, _⟩ := hbo.form (by omega)
                    have hAb : Ab = some ⟨gb, 0, none⟩ := by injection hvb
                    subst hAb
                    clear hvb
                    have OW := own_any Wn.heap.size (some ⟨gb, 0, none⟩) nb cb lb Wn (Rd.own hbo) (by omega)
                    have HBO := Lib_hid hbo
                    have HBN := Lib_hid hbn
                    have HBWN := Lib_hid hbwn
                    clear h6 hbo hbn hbwn
                    go_wp2_with fail
                    refine OW.mono ?_
                    intro e w1 hm
                    rw [made_iff] at hm
                    obtain ⟨A1, n1, c1, rfl, ho1, hb1⟩ := hm
                    obtain rfl : n1 = nb := by have h1 := ho1.1; have h2 := HBO.out.1; rw [bs_length] at h1 h2; omega
                    obtain ⟨g, cap, hv, _, _⟩ := ho1.form (by omega)
                    have hA : A1 = some ⟨g, 0, none⟩ := by injection hv
                    subst hA
                    have hll : lb.length = n1 := by have h2 := HBO.out.1; rw [bs_length] at h2; omega
                    obtain ⟨x, hx⟩ : ∃ x, lb[n]? = some x := ⟨_, List.getElem?_eq_getElem (by omega)⟩
                    have hx8 : x < 256 := HLB.out x (List.mem_of_getElem? hx)
                    have hcx : w1.cell? ⟨g, n, none⟩ = some (.int .u8 (x : Int)) := (ho1.cellAt n (by omega)).trans (by simp [bs, hx])
                    have hfx := ho1.frozenAt n
                    obtain ⟨v, hv2⟩ : ∃ v, v = 1 + n % 255 := ⟨_, rfl⟩
                    have hv8 : v < 256 := by omega
                    have hvw : IntKind.u8.wrap (1 + (n : Int) % 255) = (v : Int) := by rw [show 1 + (n : Int) % 255 = ((1 + n % 255 : Nat) : Int) by omega, u8w, hv2]; omega
                    have hxv := xor_two hx8 hv8
                    have hxo := xor_byte8 hx8 hv8
                    obtain ⟨y, hy⟩ : ∃ y, y = x ^^^ v := ⟨_, rfl⟩
                    rw [← hy] at hxv hxo
                    have ST := ho1.stored n (.int .u8 (y : Int))
                    rw [← bs_set] at ST
                    have hby : ∀ z ∈ lb.set n y, z < 256 := by
                      intro z hz
                      rcases List.mem_or_eq_of_mem_set hz with hz | rfl
                      · exact HLB.out z hz
                      · exact hxo
                    have hgw := own_ge ho1 g rfl
                    have hb2 := hb1.grown ST.2 hb1.size (fun k hk => by have e2 : g = k := Option.some.inj hk; omega)
                    have hc1 := own_cap ho1
                    have HO2 := Lib_hid ST.1
                    have HBY := Lib_hid hby
                    have HB2 := Lib_hid hb2
                    clear hy hv2 hx OW ho1 hb1 ST hby hb2 hll hv
                    go_wp2_with fail
                    have hb2 := HB2.out
                    have ho2 := HO2.out
                    generalize w1.setCell ⟨g, n, none⟩ (.int .u8 (y : Int)) = w2 at *
                    have hbw2 := HBWN.out.trans (hb2.mono HBWN.out.size)
                    have hsz2 := hb2.size
                    have F2 := fgets_any n1 c1 (some ⟨g, 0, none⟩) (lb.set n y) (n : Int) w2 (HTB.out _ hbw2) (Rd.own ho2) HBY.out hc1 (free_own ho2)
                    clear hcx hfx hb2 ho2 hbw2
                    go_wp2_with fail
                    refine F2.mono ?_
                    rintro e w3 ⟨rfl, hb3⟩
                    have hb03 := HB2.out.trans (hb3.mono hsz2)
                    obtain ⟨hsl, hr4, hf4⟩ := slice_own (k := n) (own_below HBO.out hb03 (own_lt HBO.out)) (by omega) (by omega)
                    have F4 := fgets_any n cb (some ⟨gb, 0, none⟩) (lb.take n) 0 w3 (HTB.out _ (HBWN.out.trans (hb03.mono HBWN.out.size))) hr4 (fun z hz => HLB.out z (List.mem_of_mem_take hz)) ⟨by omega, hcb.2⟩ hf4
                    have HO3 := Lib_hid (own_below HO2.out hb3 (own_lt HO2.out))
                    have HB03 := Lib_hid hb03
                    clear F2 hb3 hb03 hr4 hf4
                    go_wp2_with fail
                    refine F4.mono ?_
                    rintro e w4 ⟨rfl, hb4⟩
                    have hb04 := HB03.out.trans (hb4.mono HB03.out.size)
                    have F5 := fback_any w4.heap.size none 0 0 [] [] (some ⟨g, 0, none⟩) n1 c1 (lb.set n y) 0 0 0 0 0 0 w4 (HTB.out _ (HBWN.out.trans (hb04.mono HBWN.out.size))) Rd.zero ⟨rfl, by simp⟩ rfl (by omega) (Rd.own (own_below HO3.out hb4 (own_lt HO3.out))) HBY.out hc1 (by omega) (by omega) (by omega) (by omega)
                    simp only [show ((0 : Nat) : Int) = 0 from rfl] at F5
                    have HB04 := Lib_hid hb04
                    clear F4 hb4 hb04 hsl
                    go_wp2_with fail
                    refine F5.mono ?_
                    rintro e w5 ⟨rfl, hb5⟩
                    have hb05 := HBN.out.trans ((HB04.out.trans (hb5.mono HB04.out.size)).mono HBN.out.size)
                    clear F5 hb5
                    go_wp2
                    go_roundw
                    case rel => exact ⟨n + 1, by go_num, by omega, hb05⟩
                    case measure => simp [intOf]; omega
                  · have h6f : ((i : Int) % 6 == 3) = false := by simp [h6]
                    clear h6 hbo hbn
                    go_wp2
                    go_roundw
                    case rel => exact ⟨k, i + 1, rfl, by go_num, hk, by omega, hbwn⟩
                    case measure => simp [intOf]; omega
                · obtain rfl : nb = n := by omega
                  clear hbo hbn
                  go_wp2
                  go_roundw
                  case rel => exact ⟨k, i + 1, rfl, by go_num, hk, by omega, hbwn⟩
                  case measure => simp [intOf]; omega
    · obtain rfl : i = 60 := by omega
      obtain ⟨wr', rfl⟩ : ∃ wr' : World, wr' = wr := ⟨_, rfl⟩
      have G := fun (W : World) (hb : Below w.heap.size w W) (cs : Array Value) (l : List Nat) (hcs : cs.toList = bs l) (hl : l.length ≤ 1000) (hl8 : ∀ y ∈ l, y < 256) (a : Int) => (show Calls Tryd.prog 4 #[.slice (some ⟨W.heap.size, 0, none⟩) l.length l.length, .int .i64 a] (W.alloc (.cells cs 5)) fun e w' => e = .returned (.bool true) ∧ Below w.heap.size w w' from by
        obtain ⟨A, c, he, ho, _⟩ := made_lit (w := W) cs l hcs hl
        injection he with he
        injection he with h1 _ h3
        subst h1 h3
        have hbW := hb.alloc hb.size (.cells cs 5)
        exact (fgets_any l.length l.length (some ⟨W.heap.size, 0, none⟩) l a _ (HTB.out _ hbW) (Rd.own ho) hl8 (own_cap ho) (free_own ho)).mono fun e w' ⟨h1, h2⟩ => ⟨h1, hbW.trans (h2.mono hbW.size)⟩)
      have HG := Lib_hid G
      have G1 := G wr' hbw #[.int .u8 1, .int .u8 255, .int .u8 255, .int .u8 255, .int .u8 255, .int .u8 255, .int .u8 255, .int .u8 255, .int .u8 255, .int .u8 255, .int .u8 1, .int .u8 0] [1, 255, 255, 255, 255, 255, 255, 255, 255, 255, 1, 0] rfl (by decide) (by decide) 0
      simp only [List.length_cons, List.length_nil, Nat.reduceAdd] at G1
      clear G
      go_wp2_with fail
      refine G1.mono ?_
      rintro e w1 ⟨rfl, hb1⟩
      have G2 := HG.out w1 hb1 #[.int .u8 1, .int .u8 0] [1, 0] rfl (by decide) (by decide) (-1)
      simp only [List.length_cons, List.length_nil, Nat.reduceAdd] at G2
      clear G1
      go_wp2_with fail
      refine G2.mono ?_
      rintro e w2 ⟨rfl, hb2⟩
      have G3 := HG.out w2 hb2 #[.int .u8 1, .int .u8 0] [1, 0] rfl (by decide) (by decide) 4611686018427387904
      simp only [List.length_cons, List.length_nil, Nat.reduceAdd] at G3
      clear G2
      go_wp2_with fail
      refine G3.mono ?_
      rintro e w3 ⟨rfl, hb3⟩
      have WK := fworks_any w3 (HTB.out _ hb3)
      clear G3
      go_wp2_with fail
      refine WK.mono ?_
      rintro e w4 ⟨rfl, hb4⟩
      have hbf := hb3.trans (hb4.mono hb3.size)
      go_wp2_with fail
      go_ret
      exact ⟨rfl, hbf⟩

end Go.Proofs.YtedglcbeheeonaaDoor
