/-
  A region that draws its order, by what holds of each operation's value: shown once for each operation, from any state in which the operations that it waits for are done; so it holds for every order. No program is named here.
  A region that draws its order, by what holds while some of its operations are done: shown once for each operation. No program is named here.
  Layer 4: two trees told to the document, and put into boxes, in any order: what holds on the way.
  Layer 4: a tree turned, and two trees in one, put into boxes, in any order: what holds on the way.
  Layer 4: Turn, the document's.
  Layer 4: the statements' FewNodes; two trees in a row; Turn and the document's Turn of any tree.
  Layer 4: works: the chapter's examples.
-/
import Derived.Test.YtpbmgbeiieapiaaGreatDoorMem
import Derived.Orders
import Derived.Test.YtpbmgbeiieapiaaGreatDoorTex
import Derived.Test.YtpbmgbeiieapiaaGreatDoorZcTqm
import Derived.Test.YtpbmgbeiieapiaaGreatDoorTcn
import Derived.Test.YtpbmgbeiieapiaaGreatDoorTre
import Derived.Test.YtpbmgbeiieapiaaGreatDoorZcTql
import Derived.Test.YtpbmgbeiieapiaaGreatDoorHlp
import Derived.Test.YtpbmgbeiieapiaaGreatDoorZcTcl

namespace Go.Proofs.YtpbmgbeiieapiaaGreatDoor
open Go Go.RowKit
set_option linter.unusedVariables false

section
variable {P : Program} {ops : Array Oper} {Q : Exit → Act → World → Prop} {Pr : Nat → Value → World → Prop} {a0 : Act} {w0 : World}

/-- The slots that a region's operations write. -/
def dsts (ops : Array Oper) : List Tmp := ops.toList.filterMap (·.dst)

/-- In the middle of a region. -/
structure Mid (ops : Array Oper) (Pr : Nat → Value → World → Prop) (a0 : Act) (w0 : World) (a : Act) (w : World) : Prop where
  tmps : a.tmps.size = a0.tmps.size
  defers : a.defers = a0.defers
  below : Below w0.heap.size w0 w
  other : ∀ s, s ∉ dsts ops → a.tmps.getD s undef = a0.tmps.getD s undef

def Done (ops : Array Oper) (Pr : Nat → Value → World → Prop) (i : Nat) (a : Act) (w : World) : Prop := ∀ o d, ops[i]? = some o → o.dst = some d → Pr i (a.tmps.getD d undef) w

theorem mem_dsts {i : Nat} {o : Oper} {d : Tmp} (h : ops[i]? = some o) (hd : o.dst = some d) : d ∈ dsts ops := by
  unfold dsts
  rw [List.mem_filterMap]
  refine ⟨o, ?_, hd⟩
  have : ops.toList[i]? = some o := by simpa using h
  exact List.mem_of_getElem? this
theorem dst_inj (hnd : (dsts ops).Nodup) {i j : Nat} {o o' : Oper} {d : Tmp} (h : ops[i]? = some o) (h' : ops[j]? = some o') (hd : o.dst = some d) (hd' : o'.dst = some d) : i = j := by
  obtain ⟨l⟩ := ops
  simp only [List.getElem?_toArray] at h h'
  unfold dsts at hnd
  simp only at hnd
  induction l generalizing i j with
  | nil => simp at h
  | cons x l ih =>
    cases hx : x.dst with
    | none =>
      rw [List.filterMap_cons_none hx] at hnd
      cases i with
      | zero => simp at h; subst h; rw [hx] at hd; cases hd
      | succ i =>
        cases j with
        | zero => simp at h'; subst h'; rw [hx] at hd'; cases hd'
        | succ j => rw [ih (i := i) (j := j) hnd (by simpa using h) (by simpa using h')]
    | some e =>
      rw [List.filterMap_cons_some hx, List.nodup_cons] at hnd
      cases i with
      | zero =>
        simp at h
        subst h
        rw [hx] at hd
        cases j with
        | zero => rfl
        | succ j =>
          exfalso
          injection hd with hd
          subst hd
          exact hnd.1 (List.mem_filterMap.2 ⟨o', List.mem_of_getElem? (by simpa using h'), hd'⟩)
      | succ i =>
        cases j with
        | zero =>
          exfalso
          simp at h'
          subst h'
          rw [hx] at hd'
          injection hd' with hd'
          subst hd'
          exact hnd.1 (List.mem_filterMap.2 ⟨o, List.mem_of_getElem? (by simpa using h), hd⟩)
        | succ j => rw [ih (i := i) (j := j) hnd.2 (by simpa using h) (by simpa using h')]

theorem put_getD_ne {a : Act} {dst : Option Tmp} {v : Value} {s : Tmp} (h : dst ≠ some s) : (a.put dst v).tmps.getD s undef = a.tmps.getD s undef := by
  cases dst with
  | none => rfl
  | some d =>
    have : d ≠ s := fun e => h (by rw [e])
    simp [Act.put, Array.getD_eq_getD_getElem?, this]
theorem put_getD_eq {a : Act} {v : Value} {d : Tmp} (h : d < a.tmps.size) : (a.put (some d) v).tmps.getD d undef = v := by
  simp [Act.put, Array.getD_eq_getD_getElem?, h]
theorem put_size {a : Act} {dst : Option Tmp} {v : Value} : (a.put dst v).tmps.size = a.tmps.size := by cases dst <;> simp [Act.put]
theorem put_defers' {a : Act} {dst : Option Tmp} {v : Value} : (a.put dst v).defers = a.defers := by cases dst <;> simp [Act.put]

/-- All operations are done, when none is ready. -/
theorem all_listed (hback : ∀ (i : Nat) (o : Oper), ops[i]? = some o → ∀ e ∈ o.after, e.on < i) {listed : Array Bool} (hs : listed.size = ops.size) (hr : Region.ready .any ops listed = []) : ∀ i, i < ops.size → listed.getD i false = true := by
  intro i
  induction i using Nat.strongRecOn with
  | ind i ih =>
    intro hi
    cases h : listed.getD i false with
    | true => rfl
    | false =>
      exfalso
      have hm : i ∈ Region.ready .any ops listed := by
        rw [mem_ready]
        refine ⟨?_, ops[i], Array.getElem?_eq_getElem hi, fun e he _ => ih e.on (hback i _ (Array.getElem?_eq_getElem hi) e he) ?_⟩
        · have hi' : i < listed.size := by omega
          rw [Array.getD_eq_getD_getElem?, Array.getElem?_eq_getElem hi'] at h ⊢
          exact h
        · have := hback i _ (Array.getElem?_eq_getElem hi) e he
          omega
      rw [hr] at hm
      cases hm

theorem wpAny_mid (hnd : (dsts ops).Nodup) (hlt : ∀ d ∈ dsts ops, d < a0.tmps.size) (hback : ∀ (i : Nat) (o : Oper), ops[i]? = some o → ∀ e ∈ o.after, e.on < i)
    (hst : ∀ i v w w', Below w0.heap.size w0 w → Below w.heap.size w w' → Pr i v w → Pr i v w')
    (hop : ∀ i o a w, ops[i]? = some o → Mid ops Pr a0 w0 a w → (∀ e ∈ o.after, Region.binds .any e = true → Done ops Pr e.on a w) →
      Region.wanted o (yielded ops a.tmps) = true ∧ o.wp P a w (fun a' w' => ∃ v, a' = a.put o.dst v ∧ Pr i v w' ∧ Below w.heap.size w w') Q)
    (hend : ∀ a w, Mid ops Pr a0 w0 a w → (∀ i, i < ops.size → Done ops Pr i a w) → Q .normal a w) :
    ∀ (fuel : Nat) (listed : Array Bool) (a : Act) (w : World), listed.size = ops.size → listed.toList.count false ≤ fuel → Mid ops Pr a0 w0 a w → (∀ i, listed.getD i false = true → Done ops Pr i a w) → wpAny P .any ops Q fuel listed a w := by
  intro fuel
  induction fuel with
  | zero =>
    intro listed a w hs hc hM hD
    have hall : ∀ i, i < ops.size → listed.getD i false = true := by
      intro i hi
      cases h : listed.getD i false with
      | true => rfl
      | false =>
        exfalso
        have hi' : i < listed.size := by omega
        rw [Array.getD_eq_getD_getElem?, Array.getElem?_eq_getElem hi'] at h
        have : false ∈ listed.toList := by
          rw [← h]; simp
        have := List.count_pos_iff.2 this
        omega
    refine ⟨?_, hend a w hM fun i hi => hD i (hall i hi)⟩
    apply List.eq_nil_iff_forall_not_mem.2
    intro j hj
    rw [mem_ready] at hj
    obtain ⟨h1, o, ho, _⟩ := hj
    have hlt := (Array.getElem?_eq_some_iff.1 ho).1
    have h2 := hall j hlt
    have hi' : j < listed.size := by omega
    rw [Array.getD_eq_getD_getElem?, Array.getElem?_eq_getElem hi'] at h1 h2
    simp at h1 h2
    rw [h1] at h2; cases h2
  | succ fuel ih =>
    intro listed a w hs hc hM hD
    refine ⟨fun hr => hend a w hM fun i hi => hD i (all_listed hback hs hr i hi), fun i hi => ?_⟩
    rw [mem_ready] at hi
    obtain ⟨h1, o, ho, haf⟩ := hi
    have hlt' := (Array.getElem?_eq_some_iff.1 ho).1
    have hi' : i < listed.size := by omega
    obtain ⟨hw, hwp⟩ := hop i o a w ho hM fun e he hb => hD e.on (haf e he hb)
    unfold wpOp
    rw [ho]
    simp only [hw, if_true]
    refine .inl (Oper.wp_mono ?_ hwp)
    rintro a' w' ⟨v, rfl, hv, hbl⟩
    have hbl0 : Below w0.heap.size w0 w' := hM.below.trans (hbl.mono hM.below.size)
    refine ih _ _ _ (by simpa using hs) ?_ ⟨?_, ?_, hbl0, ?_⟩ ?_
    · have hf : listed.toList[i]'(by simpa using hi') = false := by
        rw [Array.getD_eq_getD_getElem?, Array.getElem?_eq_getElem hi'] at h1
        simpa using h1
      have : (listed.setIfInBounds i true).toList = listed.toList.set i true := by simp
      rw [this, List.count_set (by simpa using hi'), hf]
      have hpos : 0 < listed.toList.count false := List.count_pos_iff.2 (by rw [← hf]; exact List.getElem_mem _)
      have e1 : ((false == false) = true) := rfl
      have e2 : ¬ ((true == false) = true) := by decide
      rw [if_pos e1, if_neg e2]
      omega
    · rw [put_size]; exact hM.tmps
    · rw [put_defers']; exact hM.defers
    · intro s hsd
      rw [put_getD_ne (fun e => hsd (mem_dsts ho e))]
      exact hM.other s hsd
    · intro j hj
      by_cases hji : j = i
      · subst hji
        intro o' d ho' hd
        obtain rfl : o' = o := Option.some.inj (ho'.symm.trans ho)
        rw [hd, put_getD_eq (by rw [hM.tmps]; exact hlt d (mem_dsts ho hd))]
        exact hv
      · have hj2 : listed.getD j false = true := by
          rw [Array.getD_eq_getD_getElem?, Array.getElem?_setIfInBounds] at hj
          have : ¬ i = j := fun e => hji e.symm
          simp only [this, if_false] at hj
          rw [Array.getD_eq_getD_getElem?]
          exact hj
        intro o' d ho' hd
        rw [put_getD_ne (fun e => hji (dst_inj hnd ho' ho hd e))]
        exact hst j _ w w' hM.below hbl (hD j hj2 o' d ho' hd)

/-- The region's operations: each writes a slot of its own below N, and waits for earlier ones alone. -/
def regionOk (ops : Array Oper) (N : Nat) : Bool :=
  decide (dsts ops).Nodup && (dsts ops).all (fun d => decide (d < N)) && (List.range ops.size).all fun i => ((ops[i]?).map fun o => o.after.all fun e => decide (e.on < i)).getD true
theorem regionOk_back {N : Nat} (h : regionOk ops N = true) (i : Nat) (o : Oper) (ho : ops[i]? = some o) : ∀ e ∈ o.after, e.on < i := by
  simp only [regionOk, Bool.and_eq_true] at h
  have hlt := (Array.getElem?_eq_some_iff.1 ho).1
  have := (List.all_eq_true.1 h.2) i (by rw [List.mem_range]; exact hlt)
  rw [ho] at this
  intro e he
  simp only [Option.map_some, Option.getD_some] at this
  have h2 := (Array.all_eq_true_iff_forall_mem.1 this) e he
  simpa using h2

/-- An operation that ends with the value v, in the world w'. -/
theorem mid_step {o : Oper} {a : Act} {w : World} {K0 : Act → World → Prop} (v : Value) (w' : World) (h : ∀ K : Act → World → Prop, K (a.put o.dst v) w' → o.wp P a w K Q) (hK : K0 (a.put o.dst v) w') : o.wp P a w K0 Q := h K0 hK

/-- An operation that ends with some value, in some world, of which R holds. -/
theorem mid_call {o : Oper} {a : Act} {w : World} {K0 : Act → World → Prop} (R : Value → World → Prop) (h : ∀ K : Act → World → Prop, (∀ v w', R v w' → K (a.put o.dst v) w') → o.wp P a w K Q) (hK : ∀ v w', R v w' → K0 (a.put o.dst v) w') : o.wp P a w K0 Q := h K0 hK

theorem below_drew1 (w : World) : Below w.heap.size w { w with drawn := w.drawn + 1 } := ⟨rfl, rfl, rfl, Nat.le_refl _, fun _ _ => rfl⟩

/-- A REGION THAT DRAWS ITS ORDER, BY WHAT HOLDS OF EACH OPERATION'S VALUE. -/
theorem wp_region_mid {id N : Nat} (Pr : Nat → Value → World → Prop) (hm : P.follows .mixedOrders = true) (hok : regionOk ops N = true) (hN : a0.tmps.size = N)
    (hst : ∀ i v w w', Below w0.heap.size w0 w → Below w.heap.size w w' → Pr i v w → Pr i v w')
    (hop : ∀ i o a w, ops[i]? = some o → Mid ops Pr a0 w0 a w → (∀ j, (o.after.any fun e => e.on == j && Region.binds .any e) = true → Done ops Pr j a w) →
      Region.wanted o (yielded ops a.tmps) = true ∧ o.wp P a w (fun a' w' => ∃ v, a' = a.put o.dst v ∧ Pr i v w' ∧ Below w.heap.size w w') Q)
    (hend : ∀ a w, Mid ops Pr a0 w0 a w → (∀ i, i < ops.size → Done ops Pr i a w) → Q .normal a w) :
    (Code.region id ops true).wp P Q a0 w0 := by
  have hok' := hok
  simp only [regionOk, Bool.and_eq_true, decide_eq_true_eq] at hok'
  refine wp_region_any hm (wpAny_mid hok'.1.1 (fun d hd => by rw [hN]; simpa using (List.all_eq_true.1 hok'.1.2) d hd) (regionOk_back hok) hst (fun i o a w ho hM hD => hop i o a w ho hM fun j hj => ?_) hend _ _ _ _ (by simp) ?_ ⟨rfl, rfl, below_drew1 w0, fun _ _ => rfl⟩ ?_)
  · rw [← Array.any_toList, List.any_eq_true] at hj
    obtain ⟨e, he, hj⟩ := hj
    have he := Array.mem_toList_iff.1 he
    simp only [Bool.and_eq_true, beq_iff_eq] at hj
    rw [← hj.1]
    exact hD e he hj.2
  · simp
  · intro i hi
    exfalso
    rw [Array.getD_eq_getD_getElem?, Array.getElem?_replicate] at hi
    split at hi <;> simp at hi
end

end Go.Proofs.YtpbmgbeiieapiaaGreatDoor

namespace Go.Proofs.YtpbmgbeiieapiaaGreatDoor
open Go Go.RowKit
set_option linter.unusedVariables false

section
variable {P : Program} {ops : Array Oper} {Q : Exit → Act → World → Prop} {a0 : Act} {w0 : World}

/-- One more is done. -/
def more (L : Nat → Bool) (i : Nat) : Nat → Bool := fun k => if k = i then true else L k

theorem wpAny_gen (I : (Nat → Bool) → Act → World → Prop) (hback : ∀ (i : Nat) (o : Oper), ops[i]? = some o → ∀ e ∈ o.after, e.on < i)
    (hop : ∀ i o L a w, ops[i]? = some o → L i = false → I L a w → (∀ e ∈ o.after, Region.binds .any e = true → L e.on = true) →
      Region.wanted o (yielded ops a.tmps) = true ∧ o.wp P a w (fun a' w' => I (more L i) a' w') Q)
    (hend : ∀ L a w, I L a w → (∀ i, i < ops.size → L i = true) → Q .normal a w) :
    ∀ (fuel : Nat) (listed : Array Bool) (a : Act) (w : World), listed.size = ops.size → listed.toList.count false ≤ fuel → I (fun k => listed.getD k false) a w → wpAny P .any ops Q fuel listed a w := by
  intro fuel
  induction fuel with
  | zero =>
    intro listed a w hs hc hI
    have hall : ∀ i, i < ops.size → listed.getD i false = true := by
      intro i hi
      cases h : listed.getD i false with
      | true => rfl
      | false =>
        exfalso
        have hi' : i < listed.size := by omega
        rw [Array.getD_eq_getD_getElem?, Array.getElem?_eq_getElem hi'] at h
        have : false ∈ listed.toList := by
          rw [← h]; simp
        have := List.count_pos_iff.2 this
        omega
    refine ⟨?_, hend _ a w hI hall⟩
    apply List.eq_nil_iff_forall_not_mem.2
    intro j hj
    rw [mem_ready] at hj
    obtain ⟨h1, o, ho, _⟩ := hj
    have hlt := (Array.getElem?_eq_some_iff.1 ho).1
    have h2 := hall j hlt
    have hi' : j < listed.size := by omega
    rw [Array.getD_eq_getD_getElem?, Array.getElem?_eq_getElem hi'] at h1 h2
    simp at h1 h2
    rw [h1] at h2; cases h2
  | succ fuel ih =>
    intro listed a w hs hc hI
    refine ⟨fun hr => hend _ a w hI (all_listed hback hs hr), fun i hi => ?_⟩
    rw [mem_ready] at hi
    obtain ⟨h1, o, ho, haf⟩ := hi
    have hlt' := (Array.getElem?_eq_some_iff.1 ho).1
    have hi' : i < listed.size := by omega
    have h1' : listed.getD i false = false := by
      rw [Array.getD_eq_getD_getElem?, Array.getElem?_eq_getElem hi'] at h1 ⊢
      exact h1
    obtain ⟨hw, hwp⟩ := hop i o (fun k => listed.getD k false) a w ho h1' hI fun e he hb => haf e he hb
    unfold wpOp
    rw [ho]
    simp only [hw, if_true]
    refine .inl (Oper.wp_mono ?_ hwp)
    intro a' w' hI'
    refine ih _ _ _ (by simpa using hs) ?_ ?_
    · have hf : listed.toList[i]'(by simpa using hi') = false := by
        rw [Array.getD_eq_getD_getElem?, Array.getElem?_eq_getElem hi'] at h1
        simpa using h1
      have : (listed.setIfInBounds i true).toList = listed.toList.set i true := by simp
      rw [this, List.count_set (by simpa using hi'), hf]
      have hpos : 0 < listed.toList.count false := List.count_pos_iff.2 (by rw [← hf]; exact List.getElem_mem _)
      have e1 : ((false == false) = true) := rfl
      have e2 : ¬ ((true == false) = true) := by decide
      rw [if_pos e1, if_neg e2]
      omega
    · have e : (fun k => (listed.setIfInBounds i true).getD k false) = more (fun k => listed.getD k false) i := by
        funext k
        unfold more
        rw [Array.getD_eq_getD_getElem?, Array.getElem?_setIfInBounds]
        by_cases hk : k = i
        · subst hk; simp [hi']
        · rw [if_neg (fun e => hk e.symm), if_neg hk]
          simp [Array.getD_eq_getD_getElem?]
      rw [e]
      exact hI'

/-- A REGION THAT DRAWS ITS ORDER, BY WHAT HOLDS WHILE SOME OF ITS OPERATIONS ARE DONE. -/
theorem wp_region_gen {id N : Nat} (I : (Nat → Bool) → Act → World → Prop) (hm : P.follows .mixedOrders = true) (hok : regionOk ops N = true)
    (hst : I (fun _ => false) a0 { w0 with drawn := w0.drawn + 1 })
    (hop : ∀ i o L a w, ops[i]? = some o → L i = false → I L a w → (∀ j, (o.after.any fun e => e.on == j && Region.binds .any e) = true → L j = true) →
      Region.wanted o (yielded ops a.tmps) = true ∧ o.wp P a w (fun a' w' => I (more L i) a' w') Q)
    (hend : ∀ L a w, I L a w → (∀ i, i < ops.size → L i = true) → Q .normal a w) :
    (Code.region id ops true).wp P Q a0 w0 := by
  refine wp_region_any hm (wpAny_gen I (regionOk_back hok) (fun i o L a w ho h1 hI hD => hop i o L a w ho h1 hI fun j hj => ?_) hend _ _ _ _ (by simp) ?_ ?_)
  · rw [← Array.any_toList, List.any_eq_true] at hj
    obtain ⟨e, he, hj⟩ := hj
    have he := Array.mem_toList_iff.1 he
    simp only [Bool.and_eq_true, beq_iff_eq] at hj
    rw [← hj.1]
    exact hD e he hj.2
  · simp
  · have e : (fun k => (Array.replicate ops.size false).getD k false) = fun _ => false := by
      funext k
      rw [Array.getD_eq_getD_getElem?, Array.getElem?_replicate]
      split <;> rfl
    rw [e]
    exact hst
/-- The same, told of the frame that the region begins with. -/
theorem wp_region_gen2 {id N : Nat} (I : Act → (Nat → Bool) → Act → World → Prop) (hm : P.follows .mixedOrders = true) (hok : regionOk ops N = true)
    (hst : I a0 (fun _ => false) a0 { w0 with drawn := w0.drawn + 1 })
    (hop : ∀ i o L a w, ops[i]? = some o → L i = false → I a0 L a w → (∀ j, (o.after.any fun e => e.on == j && Region.binds .any e) = true → L j = true) →
      Region.wanted o (yielded ops a.tmps) = true ∧ o.wp P a w (fun a' w' => I a0 (more L i) a' w') Q)
    (hend : ∀ L a w, I a0 L a w → (∀ i, i < ops.size → L i = true) → Q .normal a w) :
    (Code.region id ops true).wp P Q a0 w0 := wp_region_gen (I a0) hm hok hst hop hend
theorem wpAny_gen3 (I : (Nat → Bool) → Act → World → Prop) (hback : ∀ (i : Nat) (o : Oper), ops[i]? = some o → ∀ e ∈ o.after, e.on < i)
    (hop : ∀ i o L a w, ops[i]? = some o → L i = false → I L a w → (∀ e ∈ o.after, Region.binds .any e = true → L e.on = true) →
      (Region.wanted o (yielded ops a.tmps) = true ∧ o.wp P a w (fun a' w' => I (more L i) a' w') Q) ∨ (Region.wanted o (yielded ops a.tmps) = false ∧ I (more L i) (a.put o.dst undef) w))
    (hend : ∀ L a w, I L a w → (∀ i, i < ops.size → L i = true) → Q .normal a w) :
    ∀ (fuel : Nat) (listed : Array Bool) (a : Act) (w : World), listed.size = ops.size → listed.toList.count false ≤ fuel → I (fun k => listed.getD k false) a w → wpAny P .any ops Q fuel listed a w := by
  intro fuel
  induction fuel with
  | zero =>
    intro listed a w hs hc hI
    have hall : ∀ i, i < ops.size → listed.getD i false = true := by
      intro i hi
      cases h : listed.getD i false with
      | true => rfl
      | false =>
        exfalso
        have hi' : i < listed.size := by omega
        rw [Array.getD_eq_getD_getElem?, Array.getElem?_eq_getElem hi'] at h
        have : false ∈ listed.toList := by
          rw [← h]; simp
        have := List.count_pos_iff.2 this
        omega
    refine ⟨?_, hend _ a w hI hall⟩
    apply List.eq_nil_iff_forall_not_mem.2
    intro j hj
    rw [mem_ready] at hj
    obtain ⟨h1, o, ho, _⟩ := hj
    have hlt := (Array.getElem?_eq_some_iff.1 ho).1
    have h2 := hall j hlt
    have hi' : j < listed.size := by omega
    rw [Array.getD_eq_getD_getElem?, Array.getElem?_eq_getElem hi'] at h1 h2
    simp at h1 h2
    rw [h1] at h2; cases h2
  | succ fuel ih =>
    intro listed a w hs hc hI
    refine ⟨fun hr => hend _ a w hI (all_listed hback hs hr), fun i hi => ?_⟩
    rw [mem_ready] at hi
    obtain ⟨h1, o, ho, haf⟩ := hi
    have hlt' := (Array.getElem?_eq_some_iff.1 ho).1
    have hi' : i < listed.size := by omega
    have h1' : listed.getD i false = false := by
      rw [Array.getD_eq_getD_getElem?, Array.getElem?_eq_getElem hi'] at h1 ⊢
      exact h1
    have hnext : ∀ a' w', I (more (fun k => listed.getD k false) i) a' w' → wpAny P .any ops Q fuel (listed.setIfInBounds i true) a' w' := by
      intro a' w' hI'
      refine ih _ _ _ (by simpa using hs) ?_ ?_
      · have hf : listed.toList[i]'(by simpa using hi') = false := by
          rw [Array.getD_eq_getD_getElem?, Array.getElem?_eq_getElem hi'] at h1
          simpa using h1
        have : (listed.setIfInBounds i true).toList = listed.toList.set i true := by simp
        rw [this, List.count_set (by simpa using hi'), hf]
        have hpos : 0 < listed.toList.count false := List.count_pos_iff.2 (by rw [← hf]; exact List.getElem_mem _)
        have e1 : ((false == false) = true) := rfl
        have e2 : ¬ ((true == false) = true) := by decide
        rw [if_pos e1, if_neg e2]
        omega
      · have e : (fun k => (listed.setIfInBounds i true).getD k false) = more (fun k => listed.getD k false) i := by
          funext k
          unfold more
          rw [Array.getD_eq_getD_getElem?, Array.getElem?_setIfInBounds]
          by_cases hk : k = i
          · subst hk; simp [hi']
          · rw [if_neg (fun e => hk e.symm), if_neg hk]
            simp [Array.getD_eq_getD_getElem?]
        rw [e]
        exact hI'
    unfold wpOp
    rw [ho]
    rcases hop i o (fun k => listed.getD k false) a w ho h1' hI fun e he hb => haf e he hb with ⟨hw, hwp⟩ | ⟨hw, hI'⟩
    · simp only [hw, if_true]
      exact .inl (Oper.wp_mono hnext hwp)
    · simp only [hw]
      exact hnext _ _ hI'

/-- What an operation's slot holds, when it is done. -/
def Fixed (ops : Array Oper) (V : Nat → Value) (k : Nat) (a : Act) : Prop := ∀ o d, ops[k]? = some o → o.dst = some d → a.tmps.getD d undef = V k

/-- A REGION THAT DRAWS ITS ORDER, WHOSE OPERATIONS EACH HAVE ONE VALUE, WHATEVER THE ORDER; one that is not wanted has none. -/
theorem wp_region_fix {id N : Nat} (V : Nat → Value) (hm : P.follows .mixedOrders = true) (hok : regionOk ops N = true) (hN : a0.tmps.size = N)
    (hop : ∀ i o a w, ops[i]? = some o → Below w0.heap.size w0 w → (∀ s, s ∉ dsts ops → a.tmps.getD s undef = a0.tmps.getD s undef) → (∀ k, (o.after.any fun e => e.on == k && Region.binds .any e) = true → Fixed ops V k a) →
      (Region.wanted o (yielded ops a.tmps) = true ∧ o.wp P a w (fun a' w' => a' = a.put o.dst (V i) ∧ Below w.heap.size w w') Q) ∨ (Region.wanted o (yielded ops a.tmps) = false ∧ V i = undef))
    (hend : ∀ a w, a.tmps.size = a0.tmps.size → a.defers = a0.defers → (∀ s, s ∉ dsts ops → a.tmps.getD s undef = a0.tmps.getD s undef) → Below w0.heap.size w0 w → (∀ k, k < ops.size → Fixed ops V k a) → Q .normal a w) :
    (Code.region id ops true).wp P Q a0 w0 := by
  have hok' := hok
  simp only [regionOk, Bool.and_eq_true, decide_eq_true_eq] at hok'
  have hput : ∀ (i : Nat) (o : Oper) (L : Nat → Bool) (a : Act) (w w' : World), ops[i]? = some o → (a.tmps.size = a0.tmps.size ∧ a.defers = a0.defers ∧ (∀ s, s ∉ dsts ops → a.tmps.getD s undef = a0.tmps.getD s undef) ∧ Below w0.heap.size w0 w ∧ ∀ k, L k = true → Fixed ops V k a) → Below w.heap.size w w' →
      ((a.put o.dst (V i)).tmps.size = a0.tmps.size ∧ (a.put o.dst (V i)).defers = a0.defers ∧ (∀ s, s ∉ dsts ops → (a.put o.dst (V i)).tmps.getD s undef = a0.tmps.getD s undef) ∧ Below w0.heap.size w0 w' ∧ ∀ k, more L i k = true → Fixed ops V k (a.put o.dst (V i))) := by
    intro i o L a w w' ho ⟨h1, h2, h3, h4, h5⟩ hb
    refine ⟨put_size.trans h1, put_defers'.trans h2, fun s hs => (put_getD_ne (fun e => hs (mem_dsts ho e))).trans (h3 s hs), h4.trans (hb.mono h4.size), fun k hk o' d ho' hd => ?_⟩
    by_cases hki : k = i
    · subst hki
      obtain rfl : o' = o := Option.some.inj (ho'.symm.trans ho)
      rw [hd, put_getD_eq (by rw [h1, hN]; simpa using (List.all_eq_true.1 hok'.1.2) d (mem_dsts ho hd))]
    · have hk' : L k = true := by unfold more at hk; rwa [if_neg hki] at hk
      rw [put_getD_ne (fun e => hki (dst_inj hok'.1.1 ho' ho hd e))]
      exact h5 k hk' o' d ho' hd
  refine wp_region_any hm (wpAny_gen3 (fun L a w => a.tmps.size = a0.tmps.size ∧ a.defers = a0.defers ∧ (∀ s, s ∉ dsts ops → a.tmps.getD s undef = a0.tmps.getD s undef) ∧ Below w0.heap.size w0 w ∧ ∀ k, L k = true → Fixed ops V k a) (regionOk_back hok) (fun i o L a w ho h1 hI hD => ?_) (fun L a w hI hall => hend a w hI.1 hI.2.1 hI.2.2.1 hI.2.2.2.1 fun k hk => hI.2.2.2.2 k (hall k hk)) _ _ _ _ (by simp) ?_ ?_)
  · have hD' : ∀ k, (o.after.any fun e => e.on == k && Region.binds .any e) = true → Fixed ops V k a := fun k hj => by
      rw [← Array.any_toList, List.any_eq_true] at hj
      obtain ⟨e, he, hj⟩ := hj
      have he := Array.mem_toList_iff.1 he
      simp only [Bool.and_eq_true, beq_iff_eq] at hj
      rw [← hj.1]
      exact hI.2.2.2.2 _ (hD e he hj.2)
    rcases hop i o a w ho hI.2.2.2.1 hI.2.2.1 hD' with ⟨hw, hwp⟩ | ⟨hw, hv⟩
    · refine .inl ⟨hw, Oper.wp_mono ?_ hwp⟩
      rintro a' w' ⟨rfl, hb⟩
      exact hput i o L a w w' ho hI hb
    · refine .inr ⟨hw, ?_⟩
      have := hput i o L a w w ho hI (Below.refl _ _)
      rwa [hv] at this
  · simp
  · have e : (fun k => (Array.replicate ops.size false).getD k false) = fun _ => false := by
      funext k
      rw [Array.getD_eq_getD_getElem?, Array.getElem?_replicate]
      split <;> rfl
    rw [e]
    exact ⟨rfl, rfl, fun _ _ => rfl, below_drew1 w0, fun k hk => by cases hk⟩
end

theorem yielded_bool {ops : Array Oper} {a : Act} {j : Nat} {o : Oper} {d : Tmp} {b : Bool} (ho : ops[j]? = some o) (hd : o.dst = some d) (h : a.tmps.getD d undef = .bool b) : yielded ops a.tmps j = some b := by
  unfold yielded
  rw [ho, Option.bind_some, hd, Option.bind_some]
  rw [Array.getD_eq_getD_getElem?] at h
  cases ht : a.tmps[d]? with
  | none => rw [ht] at h; cases h
  | some v => rw [ht] at h; simp only [Option.getD_some] at h; subst h; rfl
theorem yielded_undef {ops : Array Oper} {a : Act} {j : Nat} {o : Oper} {d : Tmp} (ho : ops[j]? = some o) (hd : o.dst = some d) (h : a.tmps.getD d undef = undef) : yielded ops a.tmps j = none := by
  unfold yielded
  rw [ho, Option.bind_some, hd, Option.bind_some]
  rw [Array.getD_eq_getD_getElem?] at h
  cases ht : a.tmps[d]? with
  | none => rfl
  | some v => rw [ht] at h; simp only [Option.getD_some] at h; subst h; rfl
theorem wanted_yes {ops : Array Oper} {a : Act} {o o' : Oper} (j : Nat) (d : Tmp) {b : Bool} (hg : o.guard = some (j, b)) (ho : ops[j]? = some o') (hd : o'.dst = some d) (h : a.tmps.getD d undef = .bool b) : Region.wanted o (yielded ops a.tmps) = true := by
  unfold Region.wanted
  rw [hg]
  simp only
  rw [yielded_bool ho hd h]
  simp
theorem wanted_no {ops : Array Oper} {a : Act} {o o' : Oper} (j : Nat) (d : Tmp) {b b' : Bool} (hg : o.guard = some (j, b)) (ho : ops[j]? = some o') (hd : o'.dst = some d) (h : a.tmps.getD d undef = .bool b') (hne : b' ≠ b) : Region.wanted o (yielded ops a.tmps) = false := by
  unfold Region.wanted
  rw [hg]
  simp only
  rw [yielded_bool ho hd h]
  simpa using hne
theorem wanted_none {ops : Array Oper} {a : Act} {o o' : Oper} (j : Nat) (d : Tmp) {b : Bool} (hg : o.guard = some (j, b)) (ho : ops[j]? = some o') (hd : o'.dst = some d) (h : a.tmps.getD d undef = undef) : Region.wanted o (yielded ops a.tmps) = false := by
  unfold Region.wanted
  rw [hg]
  simp only
  rw [yielded_undef ho hd h]
  rfl

theorem act_puts {a : Act} : ∀ (l : List (Nat × Value)) (b : Act), a.tmps.size = b.tmps.size → a.defers = b.defers → (∀ s v, (s, v) ∈ l → s < b.tmps.size ∧ a.tmps.getD s undef = v) → (∀ s, s ∉ l.map (·.1) → a.tmps.getD s undef = b.tmps.getD s undef) →
    a = l.foldl (fun c x => c.put (some x.1) x.2) b
  | [], b, h1, h2, _, h4 => by
    obtain ⟨t, d⟩ := a
    obtain ⟨t', d'⟩ := b
    simp only at h1 h2 h4
    subst h2
    have : t = t' := by
      apply Array.ext h1
      intro i hi hi'
      have := h4 i (by simp)
      rw [Array.getD_eq_getD_getElem?, Array.getD_eq_getD_getElem?, Array.getElem?_eq_getElem hi, Array.getElem?_eq_getElem hi'] at this
      simpa using this
    rw [this]; rfl
  | x :: l, b, h1, h2, h3, h4 => by
    rw [List.foldl_cons]
    refine act_puts l (b.put (some x.1) x.2) (by rw [put_size]; exact h1) (by rw [put_defers']; exact h2) (fun s v hm => by rw [put_size]; exact h3 s v (by simp [hm])) fun s hs => ?_
    by_cases e : s = x.1
    · subst e
      obtain ⟨k1, k2⟩ := h3 x.1 x.2 (by simp)
      rw [put_getD_eq k1, k2]
    · rw [put_getD_ne (fun e' => e (by injection e' with e'; exact e'.symm))]
      exact h4 s (by simp at hs ⊢; exact ⟨e, hs⟩)

end Go.Proofs.YtpbmgbeiieapiaaGreatDoor

namespace Go.Proofs.YtpbmgbeiieapiaaGreatDoor
open Go Go.RowKit
set_option linter.unusedVariables false

/-- On the way: the operations' values (slots 25 to 28, the boxes 9 and 10). -/
structure P3 (w3 : World) (pv qv : Value) (tp tq : T) (a0 : Act) (L : Nat → Bool) (a : Act) (w : World) (g9 g10 l1 h1 l2 h2 : Nat) (u r : V) : Prop where
  size : a.tmps.size = a0.tmps.size
  defers : a.defers = a0.defers
  other : ∀ s, s ≠ 25 → s ≠ 26 → s ≠ 27 → s ≠ 28 → s ≠ 9 → s ≠ 10 → a.tmps.getD s undef = a0.tmps.getD s undef
  below : Below w3.heap.size w3 w
  o0 : L 0 = true → a.tmps.getD 25 undef = pv
  o2 : L 2 = true → a.tmps.getD 27 undef = qv
  o1 : L 1 = true → a.tmps.getD 26 undef = (.agg #[.int .i64 u.kind, .int .u64 (u.a : Int), .int .u64 (u.b : Int), .slice u.addr u.parts.length u.cap]) ∧ u.abs = tp ∧ Lies w l1 h1 u ∧ w3.heap.size ≤ l1 ∧ h1 ≤ w.heap.size
  o3 : L 3 = true → a.tmps.getD 28 undef = (.agg #[.int .i64 r.kind, .int .u64 (r.a : Int), .int .u64 (r.b : Int), .slice r.addr r.parts.length r.cap]) ∧ r.abs = tq ∧ Lies w l2 h2 r ∧ w3.heap.size ≤ l2 ∧ h2 ≤ w.heap.size
  o4 : L 4 = true → a.tmps.getD 9 undef = .pointer (some ⟨g9, 0, none⟩) ∧ w3.heap.size ≤ g9 ∧ ∃ x0 x1 x2 x3, w.heap[g9]? = some (.cells #[x0, x1, x2, x3] 30 (0, 0))
  o5 : L 5 = true → a.tmps.getD 10 undef = .pointer (some ⟨g10, 0, none⟩) ∧ w3.heap.size ≤ g10 ∧ ∃ x0 x1 x2 x3, w.heap[g10]? = some (.cells #[x0, x1, x2, x3] 30 (0, 0))
  d14 : L 1 = true → L 4 = true → g9 < l1 ∨ h1 ≤ g9
  d34 : L 3 = true → L 4 = true → g9 < l2 ∨ h2 ≤ g9
  d15 : L 1 = true → L 5 = true → g10 < l1 ∨ h1 ≤ g10
  d35 : L 3 = true → L 5 = true → g10 < l2 ∨ h2 ≤ g10
  d45 : L 4 = true → L 5 = true → g9 ≠ g10
  o6 : L 6 = true → L 4 = true ∧ L 1 = true ∧ w.heap[g9]? = some (.cells #[.int .i64 u.kind, .int .u64 (u.a : Int), .int .u64 (u.b : Int), .slice u.addr u.parts.length u.cap] 30 (0, 0))
  o7 : L 7 = true → L 5 = true ∧ L 3 = true ∧ w.heap[g10]? = some (.cells #[.int .i64 r.kind, .int .u64 (r.a : Int), .int .u64 (r.b : Int), .slice r.addr r.parts.length r.cap] 30 (0, 0))

section
variable {w3 : World} {pv qv : Value} {tp tq : T} {a0 : Act} {L : Nat → Bool} {a : Act} {w w' : World} {g9 g10 l1 h1 l2 h2 : Nat} {u r : V}
theorem lt_of_block {W : World} {g : Nat} {o : Obj} (h : W.heap[g]? = some o) : g < W.heap.size := (Array.getElem?_eq_some_iff.1 h).1
theorem P3.grow (h : P3 w3 pv qv tp tq a0 L a w g9 g10 l1 h1 l2 h2 u r) (hb : Below w.heap.size w w') : P3 w3 pv qv tp tq a0 L a w' g9 g10 l1 h1 l2 h2 u r := by
  have kp : ∀ {g : Nat} {o : Obj}, w.heap[g]? = some o → w'.heap[g]? = some o := fun {g o} e => (hb.block g (lt_of_block e)).trans e
  refine ⟨h.size, h.defers, h.other, h.below.trans (hb.mono h.below.size), h.o0, h.o2, fun k => ?_, fun k => ?_, fun k => ?_, fun k => ?_, h.d14, h.d34, h.d15, h.d35, h.d45, fun k => ?_, fun k => ?_⟩
  · obtain ⟨e1, e2, e3, e4, e5⟩ := h.o1 k; exact ⟨e1, e2, e3.under (hb.mono e5), e4, Nat.le_trans e5 hb.size⟩
  · obtain ⟨e1, e2, e3, e4, e5⟩ := h.o3 k; exact ⟨e1, e2, e3.under (hb.mono e5), e4, Nat.le_trans e5 hb.size⟩
  · obtain ⟨e1, e2, x0, x1, x2, x3, e3⟩ := h.o4 k; exact ⟨e1, e2, x0, x1, x2, x3, kp e3⟩
  · obtain ⟨e1, e2, x0, x1, x2, x3, e3⟩ := h.o5 k; exact ⟨e1, e2, x0, x1, x2, x3, kp e3⟩
  · obtain ⟨e1, e2, e3⟩ := h.o6 k; exact ⟨e1, e2, kp e3⟩
  · obtain ⟨e1, e2, e3⟩ := h.o7 k; exact ⟨e1, e2, kp e3⟩
theorem P3.op0 (h : P3 w3 pv qv tp tq a0 L a w g9 g10 l1 h1 l2 h2 u r) (hs : a0.tmps.size = 135) : P3 w3 pv qv tp tq a0 (more L 0) (a.put (some 25) pv) w g9 g10 l1 h1 l2 h2 u r := by
  refine ⟨put_size.trans h.size, put_defers'.trans h.defers, fun s k1 k2 k3 k4 k5 k6 => (put_getD_ne (fun e => k1 (by injection e with e; exact e.symm))).trans (h.other s k1 k2 k3 k4 k5 k6), h.below, fun _ => put_getD_eq (by rw [h.size, hs]; decide), fun k => (put_getD_ne (by decide)).trans (h.o2 k), fun k => ?_, fun k => ?_, fun k => ?_, fun k => ?_, h.d14, h.d34, h.d15, h.d35, h.d45, h.o6, h.o7⟩
  · rw [put_getD_ne (by decide)]; exact h.o1 k
  · rw [put_getD_ne (by decide)]; exact h.o3 k
  · rw [put_getD_ne (by decide)]; exact h.o4 k
  · rw [put_getD_ne (by decide)]; exact h.o5 k
theorem P3.op2 (h : P3 w3 pv qv tp tq a0 L a w g9 g10 l1 h1 l2 h2 u r) (hs : a0.tmps.size = 135) : P3 w3 pv qv tp tq a0 (more L 2) (a.put (some 27) qv) w g9 g10 l1 h1 l2 h2 u r := by
  refine ⟨put_size.trans h.size, put_defers'.trans h.defers, fun s k1 k2 k3 k4 k5 k6 => (put_getD_ne (fun e => k3 (by injection e with e; exact e.symm))).trans (h.other s k1 k2 k3 k4 k5 k6), h.below, fun k => (put_getD_ne (by decide)).trans (h.o0 k), fun _ => put_getD_eq (by rw [h.size, hs]; decide), fun k => ?_, fun k => ?_, fun k => ?_, fun k => ?_, h.d14, h.d34, h.d15, h.d35, h.d45, h.o6, h.o7⟩
  · rw [put_getD_ne (by decide)]; exact h.o1 k
  · rw [put_getD_ne (by decide)]; exact h.o3 k
  · rw [put_getD_ne (by decide)]; exact h.o4 k
  · rw [put_getD_ne (by decide)]; exact h.o5 k
theorem P3.op1 {u' : V} (h : P3 w3 pv qv tp tq a0 L a w g9 g10 l1 h1 l2 h2 u' r) (hs : a0.tmps.size = 135) (h0 : L 1 = false) (hb : Below w.heap.size w w') (hu : u.abs = tp) (hL : Lies w' w.heap.size w'.heap.size u) :
    P3 w3 pv qv tp tq a0 (more L 1) (a.put (some 26) (.agg #[.int .i64 u.kind, .int .u64 (u.a : Int), .int .u64 (u.b : Int), .slice u.addr u.parts.length u.cap])) w' g9 g10 w.heap.size w'.heap.size l2 h2 u r := by
  have g := h.grow hb
  have hb9 : ∀ {k : L 4 = true}, g9 < w.heap.size := fun {k} => by obtain ⟨_, _, x0, x1, x2, x3, e⟩ := h.o4 k; exact lt_of_block e
  have hb10 : ∀ {k : L 5 = true}, g10 < w.heap.size := fun {k} => by obtain ⟨_, _, x0, x1, x2, x3, e⟩ := h.o5 k; exact lt_of_block e
  refine ⟨put_size.trans h.size, put_defers'.trans h.defers, fun s k1 k2 k3 k4 k5 k6 => (put_getD_ne (fun e => k2 (by injection e with e; exact e.symm))).trans (h.other s k1 k2 k3 k4 k5 k6), g.below, fun k => (put_getD_ne (by decide)).trans (h.o0 k), fun k => (put_getD_ne (by decide)).trans (h.o2 k), fun _ => ⟨put_getD_eq (by rw [h.size, hs]; decide), hu, hL, h.below.size, Nat.le_refl _⟩, fun k => ?_, fun k => ?_, fun k => ?_, fun _ k => .inl (hb9 (k := k)), h.d34, fun _ k => .inl (hb10 (k := k)), h.d35, h.d45, fun k => ?_, fun k => g.o7 k⟩
  · rw [put_getD_ne (by decide)]; exact g.o3 k
  · rw [put_getD_ne (by decide)]; exact g.o4 k
  · rw [put_getD_ne (by decide)]; exact g.o5 k
  · have := (h.o6 k).2.1; rw [h0] at this; cases this
theorem P3.op3 {r' : V} (h : P3 w3 pv qv tp tq a0 L a w g9 g10 l1 h1 l2 h2 u r') (hs : a0.tmps.size = 135) (h0 : L 3 = false) (hb : Below w.heap.size w w') (hr : r.abs = tq) (hL : Lies w' w.heap.size w'.heap.size r) :
    P3 w3 pv qv tp tq a0 (more L 3) (a.put (some 28) (.agg #[.int .i64 r.kind, .int .u64 (r.a : Int), .int .u64 (r.b : Int), .slice r.addr r.parts.length r.cap])) w' g9 g10 l1 h1 w.heap.size w'.heap.size u r := by
  have g := h.grow hb
  have hb9 : ∀ {k : L 4 = true}, g9 < w.heap.size := fun {k} => by obtain ⟨_, _, x0, x1, x2, x3, e⟩ := h.o4 k; exact lt_of_block e
  have hb10 : ∀ {k : L 5 = true}, g10 < w.heap.size := fun {k} => by obtain ⟨_, _, x0, x1, x2, x3, e⟩ := h.o5 k; exact lt_of_block e
  refine ⟨put_size.trans h.size, put_defers'.trans h.defers, fun s k1 k2 k3 k4 k5 k6 => (put_getD_ne (fun e => k4 (by injection e with e; exact e.symm))).trans (h.other s k1 k2 k3 k4 k5 k6), g.below, fun k => (put_getD_ne (by decide)).trans (h.o0 k), fun k => (put_getD_ne (by decide)).trans (h.o2 k), fun k => ?_, fun _ => ⟨put_getD_eq (by rw [h.size, hs]; decide), hr, hL, h.below.size, Nat.le_refl _⟩, fun k => ?_, fun k => ?_, h.d14, fun _ k => .inl (hb9 (k := k)), h.d15, fun _ k => .inl (hb10 (k := k)), h.d45, fun k => g.o6 k, fun k => ?_⟩
  · rw [put_getD_ne (by decide)]; exact g.o1 k
  · rw [put_getD_ne (by decide)]; exact g.o4 k
  · rw [put_getD_ne (by decide)]; exact g.o5 k
  · have := (h.o7 k).2.1; rw [h0] at this; cases this
theorem P3.op4 {g9' : Nat} (h : P3 w3 pv qv tp tq a0 L a w g9' g10 l1 h1 l2 h2 u r) (hs : a0.tmps.size = 135) (h0 : L 4 = false) (z0 z1 z2 z3 : Value) :
    P3 w3 pv qv tp tq a0 (more L 4) (a.put (some 9) (.pointer (some ⟨w.heap.size, 0, none⟩))) (w.alloc (.cells #[z0, z1, z2, z3] 30)) w.heap.size g10 l1 h1 l2 h2 u r := by
  have g := h.grow (below_new w (.cells #[z0, z1, z2, z3] 30))
  refine ⟨put_size.trans h.size, put_defers'.trans h.defers, fun s k1 k2 k3 k4 k5 k6 => (put_getD_ne (fun e => k5 (by injection e with e; exact e.symm))).trans (h.other s k1 k2 k3 k4 k5 k6), g.below, fun k => (put_getD_ne (by decide)).trans (h.o0 k), fun k => (put_getD_ne (by decide)).trans (h.o2 k), fun k => ?_, fun k => ?_, fun _ => ⟨put_getD_eq (by rw [h.size, hs]; decide), h.below.size, z0, z1, z2, z3, heap_alloc_new w _⟩, fun k => ?_, fun k _ => .inr (h.o1 k).2.2.2.2, fun k _ => .inr (h.o3 k).2.2.2.2, h.d15, h.d35, fun _ k => ?_, fun k => ?_, fun k => g.o7 k⟩
  · rw [put_getD_ne (by decide)]; exact g.o1 k
  · rw [put_getD_ne (by decide)]; exact g.o3 k
  · rw [put_getD_ne (by decide)]; exact g.o5 k
  · obtain ⟨_, _, x0, x1, x2, x3, e⟩ := h.o5 k; have := lt_of_block e; omega
  · have := (h.o6 k).1; rw [h0] at this; cases this
theorem P3.op5 {g10' : Nat} (h : P3 w3 pv qv tp tq a0 L a w g9 g10' l1 h1 l2 h2 u r) (hs : a0.tmps.size = 135) (h0 : L 5 = false) (z0 z1 z2 z3 : Value) :
    P3 w3 pv qv tp tq a0 (more L 5) (a.put (some 10) (.pointer (some ⟨w.heap.size, 0, none⟩))) (w.alloc (.cells #[z0, z1, z2, z3] 30)) g9 w.heap.size l1 h1 l2 h2 u r := by
  have g := h.grow (below_new w (.cells #[z0, z1, z2, z3] 30))
  refine ⟨put_size.trans h.size, put_defers'.trans h.defers, fun s k1 k2 k3 k4 k5 k6 => (put_getD_ne (fun e => k6 (by injection e with e; exact e.symm))).trans (h.other s k1 k2 k3 k4 k5 k6), g.below, fun k => (put_getD_ne (by decide)).trans (h.o0 k), fun k => (put_getD_ne (by decide)).trans (h.o2 k), fun k => ?_, fun k => ?_, fun k => ?_, fun _ => ⟨put_getD_eq (by rw [h.size, hs]; decide), h.below.size, z0, z1, z2, z3, heap_alloc_new w _⟩, h.d14, h.d34, fun k _ => .inr (h.o1 k).2.2.2.2, fun k _ => .inr (h.o3 k).2.2.2.2, fun k _ => ?_, fun k => g.o6 k, fun k => ?_⟩
  · rw [put_getD_ne (by decide)]; exact g.o1 k
  · rw [put_getD_ne (by decide)]; exact g.o3 k
  · rw [put_getD_ne (by decide)]; exact g.o4 k
  · obtain ⟨_, _, x0, x1, x2, x3, e⟩ := h.o4 k; have := lt_of_block e; omega
  · have := (h.o7 k).1; rw [h0] at this; cases this
theorem P3.store (h : P3 w3 pv qv tp tq a0 L a w g9 g10 l1 h1 l2 h2 u r) {g : Nat} {x0 x1 x2 x3 : Value} (y0 y1 y2 y3 : Value) (hg : w.heap[g]? = some (.cells #[x0, x1, x2, x3] 30 (0, 0))) (hg3 : w3.heap.size ≤ g) (h1g : L 1 = true → g < l1 ∨ h1 ≤ g) (h3g : L 3 = true → g < l2 ∨ h2 ≤ g)
    (h6 : L 6 = true → g ≠ g9) (h7 : L 7 = true → g ≠ g10) : P3 w3 pv qv tp tq a0 L a (put4 w g y0 y1 y2 y3) g9 g10 l1 h1 l2 h2 u r := by
  have hr := put4_row hg y0 y1 y2 y3
  refine ⟨h.size, h.defers, h.other, put4_below h.below hg3 _ _ _ _, h.o0, h.o2, fun k => ?_, fun k => ?_, fun k => ?_, fun k => ?_, h.d14, h.d34, h.d15, h.d35, h.d45, fun k => ?_, fun k => ?_⟩
  · obtain ⟨e1, e2, e3, e4, e5⟩ := h.o1 k
    exact ⟨e1, e2, e3.keep fun p k1 k2 => World.cell?_of_block (put4_else w (by have := h1g k; omega) _ _ _ _), e4, by rw [put4_size]; exact e5⟩
  · obtain ⟨e1, e2, e3, e4, e5⟩ := h.o3 k
    exact ⟨e1, e2, e3.keep fun p k1 k2 => World.cell?_of_block (put4_else w (by have := h3g k; omega) _ _ _ _), e4, by rw [put4_size]; exact e5⟩
  · obtain ⟨e1, e2, v0, v1, v2, v3, e3⟩ := h.o4 k
    by_cases e : g9 = g
    · subst e; exact ⟨e1, e2, _, _, _, _, hr⟩
    · exact ⟨e1, e2, v0, v1, v2, v3, (put4_else w e _ _ _ _).trans e3⟩
  · obtain ⟨e1, e2, v0, v1, v2, v3, e3⟩ := h.o5 k
    by_cases e : g10 = g
    · subst e; exact ⟨e1, e2, _, _, _, _, hr⟩
    · exact ⟨e1, e2, v0, v1, v2, v3, (put4_else w e _ _ _ _).trans e3⟩
  · obtain ⟨e1, e2, e3⟩ := h.o6 k; exact ⟨e1, e2, (put4_else w (fun e => h6 k e.symm) _ _ _ _).trans e3⟩
  · obtain ⟨e1, e2, e3⟩ := h.o7 k; exact ⟨e1, e2, (put4_else w (fun e => h7 k e.symm) _ _ _ _).trans e3⟩
theorem P3.op6 (h : P3 w3 pv qv tp tq a0 L a w g9 g10 l1 h1 l2 h2 u r) (h0 : L 6 = false) (k1 : L 1 = true) (k4 : L 4 = true) (k5 : L 5 = true) :
    P3 w3 pv qv tp tq a0 (more L 6) a (put4 w g9 (.int .i64 u.kind) (.int .u64 (u.a : Int)) (.int .u64 (u.b : Int)) (.slice u.addr u.parts.length u.cap)) g9 g10 l1 h1 l2 h2 u r := by
  obtain ⟨_, e2, x0, x1, x2, x3, e3⟩ := h.o4 k4
  have g := h.store (.int .i64 u.kind) (.int .u64 (u.a : Int)) (.int .u64 (u.b : Int)) (.slice u.addr u.parts.length u.cap) e3 e2 (fun k => h.d14 k k4) (fun k => h.d34 k k4) (fun k => by rw [h0] at k; cases k) (fun _ => h.d45 k4 k5)
  exact ⟨g.size, g.defers, g.other, g.below, g.o0, g.o2, g.o1, g.o3, g.o4, g.o5, g.d14, g.d34, g.d15, g.d35, g.d45, fun _ => ⟨k4, k1, put4_row e3 _ _ _ _⟩, g.o7⟩
theorem P3.op7 (h : P3 w3 pv qv tp tq a0 L a w g9 g10 l1 h1 l2 h2 u r) (h0 : L 7 = false) (k3 : L 3 = true) (k4 : L 4 = true) (k5 : L 5 = true) :
    P3 w3 pv qv tp tq a0 (more L 7) a (put4 w g10 (.int .i64 r.kind) (.int .u64 (r.a : Int)) (.int .u64 (r.b : Int)) (.slice r.addr r.parts.length r.cap)) g9 g10 l1 h1 l2 h2 u r := by
  obtain ⟨_, e2, x0, x1, x2, x3, e3⟩ := h.o5 k5
  have g := h.store (.int .i64 r.kind) (.int .u64 (r.a : Int)) (.int .u64 (r.b : Int)) (.slice r.addr r.parts.length r.cap) e3 e2 (fun k => h.d15 k k5) (fun k => h.d35 k k5) (fun _ e => h.d45 k4 k5 e.symm) (fun k => by rw [h0] at k; cases k)
  exact ⟨g.size, g.defers, g.other, g.below, g.o0, g.o2, g.o1, g.o3, g.o4, g.o5, g.d14, g.d34, g.d15, g.d35, g.d45, g.o6, fun _ => ⟨k5, k3, put4_row e3 _ _ _ _⟩⟩
end

theorem act_eq {a b : Act} (h1 : a.tmps.size = b.tmps.size) (h2 : a.defers = b.defers) (h3 : ∀ s, a.tmps.getD s undef = b.tmps.getD s undef) : a = b := by
  obtain ⟨t, d⟩ := a
  obtain ⟨t', d'⟩ := b
  simp only at h1 h2 h3
  subst h2
  have : t = t' := by
    apply Array.ext h1
    intro i hi hi'
    have := h3 i
    rw [Array.getD_eq_getD_getElem?, Array.getD_eq_getD_getElem?, Array.getElem?_eq_getElem hi, Array.getElem?_eq_getElem hi'] at this
    simpa using this
  rw [this]
theorem P3.act {w3 : World} {pv qv : Value} {tp tq : T} {a0 : Act} {L : Nat → Bool} {a : Act} {w : World} {g9 g10 l1 h1 l2 h2 : Nat} {u r : V} (h : P3 w3 pv qv tp tq a0 L a w g9 g10 l1 h1 l2 h2 u r) (hs : a0.tmps.size = 135) (hL : ∀ i, i < 8 → L i = true) :
    a = (((((a0.put (some 25) pv).put (some 26) (.agg #[.int .i64 u.kind, .int .u64 (u.a : Int), .int .u64 (u.b : Int), .slice u.addr u.parts.length u.cap])).put (some 27) qv).put (some 28) (.agg #[.int .i64 r.kind, .int .u64 (r.a : Int), .int .u64 (r.b : Int), .slice r.addr r.parts.length r.cap])).put (some 9) (.pointer (some ⟨g9, 0, none⟩))).put (some 10) (.pointer (some ⟨g10, 0, none⟩)) := by
  have k0 := h.o0 (hL 0 (by omega))
  have k1 := (h.o1 (hL 1 (by omega))).1
  have k2 := h.o2 (hL 2 (by omega))
  have k3 := (h.o3 (hL 3 (by omega))).1
  have k4 := (h.o4 (hL 4 (by omega))).1
  have k5 := (h.o5 (hL 5 (by omega))).1
  refine act_eq ?_ ?_ fun s => ?_
  · rw [put_size, put_size, put_size, put_size, put_size, put_size]; exact h.size
  · rw [put_defers', put_defers', put_defers', put_defers', put_defers', put_defers']; exact h.defers
  · by_cases e10 : s = 10
    · subst e10
      rw [put_getD_eq (by rw [put_size, put_size, put_size, put_size, put_size, hs]; decide)]
      exact k5
    rw [put_getD_ne (fun e => e10 (by injection e with e; exact e.symm))]
    by_cases e9 : s = 9
    · subst e9
      rw [put_getD_eq (by rw [put_size, put_size, put_size, put_size, hs]; decide)]
      exact k4
    rw [put_getD_ne (fun e => e9 (by injection e with e; exact e.symm))]
    by_cases e28 : s = 28
    · subst e28
      rw [put_getD_eq (by rw [put_size, put_size, put_size, hs]; decide)]
      exact k3
    rw [put_getD_ne (fun e => e28 (by injection e with e; exact e.symm))]
    by_cases e27 : s = 27
    · subst e27
      rw [put_getD_eq (by rw [put_size, put_size, hs]; decide)]
      exact k2
    rw [put_getD_ne (fun e => e27 (by injection e with e; exact e.symm))]
    by_cases e26 : s = 26
    · subst e26
      rw [put_getD_eq (by rw [put_size, hs]; decide)]
      exact k1
    rw [put_getD_ne (fun e => e26 (by injection e with e; exact e.symm))]
    by_cases e25 : s = 25
    · subst e25
      rw [put_getD_eq (by rw [hs]; decide)]
      exact k0
    rw [put_getD_ne (fun e => e25 (by injection e with e; exact e.symm))]
    exact h.other s e25 e26 e27 e28 e9 e10

end Go.Proofs.YtpbmgbeiieapiaaGreatDoor

namespace Go.Proofs.YtpbmgbeiieapiaaGreatDoor
open Go Go.RowKit
set_option linter.unusedVariables false

/-- On the way: the operations' values (slots 143 to 148, the boxes 20 and 21). -/
structure P13 (w3 : World) (pv qv : Value) (rowc : Obj) (tp tq : T) (a0 : Act) (L : Nat → Bool) (a : Act) (w : World) (g4 g9 g10 l1 h1 l2 h2 : Nat) (u r : V) : Prop where
  size : a.tmps.size = a0.tmps.size
  defers : a.defers = a0.defers
  other : ∀ s, s ≠ 143 → s ≠ 144 → s ≠ 145 → s ≠ 146 → s ≠ 147 → s ≠ 148 → s ≠ 20 → s ≠ 21 → a.tmps.getD s undef = a0.tmps.getD s undef
  below : Below w3.heap.size w3 w
  o0 : L 0 = true → a.tmps.getD 143 undef = pv
  o2 : L 2 = true → a.tmps.getD 145 undef = pv
  o3 : L 3 = true → a.tmps.getD 146 undef = qv
  o4 : L 4 = true → a.tmps.getD 147 undef = .slice (some ⟨g4, 0, none⟩) 2 2 ∧ (L 8 = false → L 9 = false → w.heap[g4]? = some rowc)
  o1 : L 1 = true → a.tmps.getD 144 undef = (.agg #[.int .i64 u.kind, .int .u64 (u.a : Int), .int .u64 (u.b : Int), .slice u.addr u.parts.length u.cap]) ∧ u.abs = tp ∧ Lies w l1 h1 u ∧ w3.heap.size ≤ l1 ∧ h1 ≤ w.heap.size
  o5 : L 5 = true → a.tmps.getD 148 undef = (.agg #[.int .i64 r.kind, .int .u64 (r.a : Int), .int .u64 (r.b : Int), .slice r.addr r.parts.length r.cap]) ∧ r.abs = tq ∧ Lies w l2 h2 r ∧ w3.heap.size ≤ l2 ∧ h2 ≤ w.heap.size
  o6 : L 6 = true → a.tmps.getD 20 undef = .pointer (some ⟨g9, 0, none⟩) ∧ w3.heap.size ≤ g9 ∧ ∃ x0 x1 x2 x3, w.heap[g9]? = some (.cells #[x0, x1, x2, x3] 25 (0, 0))
  o7 : L 7 = true → a.tmps.getD 21 undef = .pointer (some ⟨g10, 0, none⟩) ∧ w3.heap.size ≤ g10 ∧ ∃ x0 x1 x2 x3, w.heap[g10]? = some (.cells #[x0, x1, x2, x3] 25 (0, 0))
  d16 : L 1 = true → L 6 = true → g9 < l1 ∨ h1 ≤ g9
  d56 : L 5 = true → L 6 = true → g9 < l2 ∨ h2 ≤ g9
  d17 : L 1 = true → L 7 = true → g10 < l1 ∨ h1 ≤ g10
  d57 : L 5 = true → L 7 = true → g10 < l2 ∨ h2 ≤ g10
  d67 : L 6 = true → L 7 = true → g9 ≠ g10
  o8 : L 8 = true → L 6 = true ∧ L 1 = true ∧ L 5 = true ∧ w.heap[g9]? = some (.cells #[.int .i64 u.kind, .int .u64 (u.a : Int), .int .u64 (u.b : Int), .slice u.addr u.parts.length u.cap] 25 (0, 0))
  o9 : L 9 = true → L 7 = true ∧ L 5 = true ∧ w.heap[g10]? = some (.cells #[.int .i64 r.kind, .int .u64 (r.a : Int), .int .u64 (r.b : Int), .slice r.addr r.parts.length r.cap] 25 (0, 0))

section
variable {w3 : World} {pv qv : Value} {rowc : Obj} {tp tq : T} {a0 : Act} {L : Nat → Bool} {a : Act} {w w' : World} {g4 g9 g10 l1 h1 l2 h2 : Nat} {u r : V}
theorem P13.grow (h : P13 w3 pv qv rowc tp tq a0 L a w g4 g9 g10 l1 h1 l2 h2 u r) (hb : Below w.heap.size w w') : P13 w3 pv qv rowc tp tq a0 L a w' g4 g9 g10 l1 h1 l2 h2 u r := by
  have kp : ∀ {g : Nat} {o : Obj}, w.heap[g]? = some o → w'.heap[g]? = some o := fun {g o} e => (hb.block g (lt_of_block e)).trans e
  refine ⟨h.size, h.defers, h.other, h.below.trans (hb.mono h.below.size), h.o0, h.o2, h.o3, fun k => ⟨(h.o4 k).1, fun k1 k2 => kp ((h.o4 k).2 k1 k2)⟩, fun k => ?_, fun k => ?_, fun k => ?_, fun k => ?_, h.d16, h.d56, h.d17, h.d57, h.d67, fun k => ?_, fun k => ?_⟩
  · obtain ⟨e1, e2, e3, e4, e5⟩ := h.o1 k; exact ⟨e1, e2, e3.under (hb.mono e5), e4, Nat.le_trans e5 hb.size⟩
  · obtain ⟨e1, e2, e3, e4, e5⟩ := h.o5 k; exact ⟨e1, e2, e3.under (hb.mono e5), e4, Nat.le_trans e5 hb.size⟩
  · obtain ⟨e1, e2, x0, x1, x2, x3, e3⟩ := h.o6 k; exact ⟨e1, e2, x0, x1, x2, x3, kp e3⟩
  · obtain ⟨e1, e2, x0, x1, x2, x3, e3⟩ := h.o7 k; exact ⟨e1, e2, x0, x1, x2, x3, kp e3⟩
  · obtain ⟨e1, e2, e4, e3⟩ := h.o8 k; exact ⟨e1, e2, e4, kp e3⟩
  · obtain ⟨e1, e2, e3⟩ := h.o9 k; exact ⟨e1, e2, kp e3⟩
theorem P13.op0 (h : P13 w3 pv qv rowc tp tq a0 L a w g4 g9 g10 l1 h1 l2 h2 u r) (hs : a0.tmps.size = 185) : P13 w3 pv qv rowc tp tq a0 (more L 0) (a.put (some 143) pv) w g4 g9 g10 l1 h1 l2 h2 u r := by
  refine ⟨(put_size.trans h.size), (put_defers'.trans h.defers), (fun s k1 k2 k3 k4 k5 k6 k7 k8 => (put_getD_ne (fun e => k1 (by injection e with e; exact e.symm))).trans (h.other s k1 k2 k3 k4 k5 k6 k7 k8)), (h.below), (fun _ => put_getD_eq (by rw [h.size, hs]; decide)), (fun k => by rw [put_getD_ne (by decide)]; exact h.o2 k), (fun k => by rw [put_getD_ne (by decide)]; exact h.o3 k), (fun k => by rw [put_getD_ne (by decide)]; exact h.o4 k), (fun k => by rw [put_getD_ne (by decide)]; exact h.o1 k), (fun k => by rw [put_getD_ne (by decide)]; exact h.o5 k), (fun k => by rw [put_getD_ne (by decide)]; exact h.o6 k), (fun k => by rw [put_getD_ne (by decide)]; exact h.o7 k), (h.d16), (h.d56), (h.d17), (h.d57), (h.d67), (fun k => h.o8 k), (fun k => h.o9 k)⟩
theorem P13.op2 (h : P13 w3 pv qv rowc tp tq a0 L a w g4 g9 g10 l1 h1 l2 h2 u r) (hs : a0.tmps.size = 185) : P13 w3 pv qv rowc tp tq a0 (more L 2) (a.put (some 145) pv) w g4 g9 g10 l1 h1 l2 h2 u r := by
  refine ⟨(put_size.trans h.size), (put_defers'.trans h.defers), (fun s k1 k2 k3 k4 k5 k6 k7 k8 => (put_getD_ne (fun e => k3 (by injection e with e; exact e.symm))).trans (h.other s k1 k2 k3 k4 k5 k6 k7 k8)), (h.below), (fun k => by rw [put_getD_ne (by decide)]; exact h.o0 k), (fun _ => put_getD_eq (by rw [h.size, hs]; decide)), (fun k => by rw [put_getD_ne (by decide)]; exact h.o3 k), (fun k => by rw [put_getD_ne (by decide)]; exact h.o4 k), (fun k => by rw [put_getD_ne (by decide)]; exact h.o1 k), (fun k => by rw [put_getD_ne (by decide)]; exact h.o5 k), (fun k => by rw [put_getD_ne (by decide)]; exact h.o6 k), (fun k => by rw [put_getD_ne (by decide)]; exact h.o7 k), (h.d16), (h.d56), (h.d17), (h.d57), (h.d67), (fun k => h.o8 k), (fun k => h.o9 k)⟩
theorem P13.op3 (h : P13 w3 pv qv rowc tp tq a0 L a w g4 g9 g10 l1 h1 l2 h2 u r) (hs : a0.tmps.size = 185) : P13 w3 pv qv rowc tp tq a0 (more L 3) (a.put (some 146) qv) w g4 g9 g10 l1 h1 l2 h2 u r := by
  refine ⟨(put_size.trans h.size), (put_defers'.trans h.defers), (fun s k1 k2 k3 k4 k5 k6 k7 k8 => (put_getD_ne (fun e => k4 (by injection e with e; exact e.symm))).trans (h.other s k1 k2 k3 k4 k5 k6 k7 k8)), (h.below), (fun k => by rw [put_getD_ne (by decide)]; exact h.o0 k), (fun k => by rw [put_getD_ne (by decide)]; exact h.o2 k), (fun _ => put_getD_eq (by rw [h.size, hs]; decide)), (fun k => by rw [put_getD_ne (by decide)]; exact h.o4 k), (fun k => by rw [put_getD_ne (by decide)]; exact h.o1 k), (fun k => by rw [put_getD_ne (by decide)]; exact h.o5 k), (fun k => by rw [put_getD_ne (by decide)]; exact h.o6 k), (fun k => by rw [put_getD_ne (by decide)]; exact h.o7 k), (h.d16), (h.d56), (h.d17), (h.d57), (h.d67), (fun k => h.o8 k), (fun k => h.o9 k)⟩
theorem P13.op4 {g4' : Nat} (h : P13 w3 pv qv rowc tp tq a0 L a w g4' g9 g10 l1 h1 l2 h2 u r) (hs : a0.tmps.size = 185) (o : Obj) (ho : (w.alloc o).heap[w.heap.size]? = some rowc) : P13 w3 pv qv rowc tp tq a0 (more L 4) (a.put (some 147) (.slice (some ⟨w.heap.size, 0, none⟩) 2 2)) (w.alloc o) w.heap.size g9 g10 l1 h1 l2 h2 u r := by
  have g := h.grow (below_new w o)
  refine ⟨(put_size.trans h.size), (put_defers'.trans h.defers), (fun s k1 k2 k3 k4 k5 k6 k7 k8 => (put_getD_ne (fun e => k5 (by injection e with e; exact e.symm))).trans (h.other s k1 k2 k3 k4 k5 k6 k7 k8)), (g.below), (fun k => by rw [put_getD_ne (by decide)]; exact g.o0 k), (fun k => by rw [put_getD_ne (by decide)]; exact g.o2 k), (fun k => by rw [put_getD_ne (by decide)]; exact g.o3 k), (fun _ => ⟨put_getD_eq (by rw [h.size, hs]; decide), fun _ _ => ho⟩), (fun k => by rw [put_getD_ne (by decide)]; exact g.o1 k), (fun k => by rw [put_getD_ne (by decide)]; exact g.o5 k), (fun k => by rw [put_getD_ne (by decide)]; exact g.o6 k), (fun k => by rw [put_getD_ne (by decide)]; exact g.o7 k), (h.d16), (h.d56), (h.d17), (h.d57), (h.d67), (fun k => g.o8 k), (fun k => g.o9 k)⟩
theorem P13.op1 {u' : V} (h : P13 w3 pv qv rowc tp tq a0 L a w g4 g9 g10 l1 h1 l2 h2 u' r) (hs : a0.tmps.size = 185) (h0 : L 1 = false) (hb : Below w.heap.size w w') (hu : u.abs = tp) (hL : Lies w' w.heap.size w'.heap.size u) : P13 w3 pv qv rowc tp tq a0 (more L 1) (a.put (some 144) (.agg #[.int .i64 u.kind, .int .u64 (u.a : Int), .int .u64 (u.b : Int), .slice u.addr u.parts.length u.cap])) w' g4 g9 g10 w.heap.size w'.heap.size l2 h2 u r := by
  have g := h.grow hb
  have hb9 : ∀ {k : L 6 = true}, g9 < w.heap.size := fun {k} => by obtain ⟨_, _, x0, x1, x2, x3, e⟩ := h.o6 k; exact lt_of_block e
  have hb10 : ∀ {k : L 7 = true}, g10 < w.heap.size := fun {k} => by obtain ⟨_, _, x0, x1, x2, x3, e⟩ := h.o7 k; exact lt_of_block e
  refine ⟨(put_size.trans h.size), (put_defers'.trans h.defers), (fun s k1 k2 k3 k4 k5 k6 k7 k8 => (put_getD_ne (fun e => k2 (by injection e with e; exact e.symm))).trans (h.other s k1 k2 k3 k4 k5 k6 k7 k8)), (g.below), (fun k => by rw [put_getD_ne (by decide)]; exact g.o0 k), (fun k => by rw [put_getD_ne (by decide)]; exact g.o2 k), (fun k => by rw [put_getD_ne (by decide)]; exact g.o3 k), (fun k => by rw [put_getD_ne (by decide)]; exact g.o4 k), (fun _ => ⟨put_getD_eq (by rw [h.size, hs]; decide), hu, hL, h.below.size, Nat.le_refl _⟩), (fun k => by rw [put_getD_ne (by decide)]; exact g.o5 k), (fun k => by rw [put_getD_ne (by decide)]; exact g.o6 k), (fun k => by rw [put_getD_ne (by decide)]; exact g.o7 k), (fun _ k => .inl (hb9 (k := k))), (h.d56), (fun _ k => .inl (hb10 (k := k))), (h.d57), (h.d67), (fun k => by have := (h.o8 k).2.1; rw [h0] at this; cases this), (fun k => g.o9 k)⟩
theorem P13.op5 {r' : V} (h : P13 w3 pv qv rowc tp tq a0 L a w g4 g9 g10 l1 h1 l2 h2 u r') (hs : a0.tmps.size = 185) (h0 : L 5 = false) (hb : Below w.heap.size w w') (hr : r.abs = tq) (hL : Lies w' w.heap.size w'.heap.size r) : P13 w3 pv qv rowc tp tq a0 (more L 5) (a.put (some 148) (.agg #[.int .i64 r.kind, .int .u64 (r.a : Int), .int .u64 (r.b : Int), .slice r.addr r.parts.length r.cap])) w' g4 g9 g10 l1 h1 w.heap.size w'.heap.size u r := by
  have g := h.grow hb
  have hb9 : ∀ {k : L 6 = true}, g9 < w.heap.size := fun {k} => by obtain ⟨_, _, x0, x1, x2, x3, e⟩ := h.o6 k; exact lt_of_block e
  have hb10 : ∀ {k : L 7 = true}, g10 < w.heap.size := fun {k} => by obtain ⟨_, _, x0, x1, x2, x3, e⟩ := h.o7 k; exact lt_of_block e
  refine ⟨(put_size.trans h.size), (put_defers'.trans h.defers), (fun s k1 k2 k3 k4 k5 k6 k7 k8 => (put_getD_ne (fun e => k6 (by injection e with e; exact e.symm))).trans (h.other s k1 k2 k3 k4 k5 k6 k7 k8)), (g.below), (fun k => by rw [put_getD_ne (by decide)]; exact g.o0 k), (fun k => by rw [put_getD_ne (by decide)]; exact g.o2 k), (fun k => by rw [put_getD_ne (by decide)]; exact g.o3 k), (fun k => by rw [put_getD_ne (by decide)]; exact g.o4 k), (fun k => by rw [put_getD_ne (by decide)]; exact g.o1 k), (fun _ => ⟨put_getD_eq (by rw [h.size, hs]; decide), hr, hL, h.below.size, Nat.le_refl _⟩), (fun k => by rw [put_getD_ne (by decide)]; exact g.o6 k), (fun k => by rw [put_getD_ne (by decide)]; exact g.o7 k), (h.d16), (fun _ k => .inl (hb9 (k := k))), (h.d17), (fun _ k => .inl (hb10 (k := k))), (h.d67), (fun k => by have := (h.o8 k).2.2.1; rw [h0] at this; cases this), (fun k => by have := (h.o9 k).2.1; rw [h0] at this; cases this)⟩
theorem P13.op6 {g9' : Nat} (h : P13 w3 pv qv rowc tp tq a0 L a w g4 g9' g10 l1 h1 l2 h2 u r) (hs : a0.tmps.size = 185) (h0 : L 6 = false) (z0 z1 z2 z3 : Value) : P13 w3 pv qv rowc tp tq a0 (more L 6) (a.put (some 20) (.pointer (some ⟨w.heap.size, 0, none⟩))) (w.alloc (.cells #[z0, z1, z2, z3] 25)) g4 w.heap.size g10 l1 h1 l2 h2 u r := by
  have g := h.grow (below_new w (.cells #[z0, z1, z2, z3] 25))
  refine ⟨(put_size.trans h.size), (put_defers'.trans h.defers), (fun s k1 k2 k3 k4 k5 k6 k7 k8 => (put_getD_ne (fun e => k7 (by injection e with e; exact e.symm))).trans (h.other s k1 k2 k3 k4 k5 k6 k7 k8)), (g.below), (fun k => by rw [put_getD_ne (by decide)]; exact g.o0 k), (fun k => by rw [put_getD_ne (by decide)]; exact g.o2 k), (fun k => by rw [put_getD_ne (by decide)]; exact g.o3 k), (fun k => by rw [put_getD_ne (by decide)]; exact g.o4 k), (fun k => by rw [put_getD_ne (by decide)]; exact g.o1 k), (fun k => by rw [put_getD_ne (by decide)]; exact g.o5 k), (fun _ => ⟨put_getD_eq (by rw [h.size, hs]; decide), h.below.size, z0, z1, z2, z3, heap_alloc_new w _⟩), (fun k => by rw [put_getD_ne (by decide)]; exact g.o7 k), (fun k _ => .inr (h.o1 k).2.2.2.2), (fun k _ => .inr (h.o5 k).2.2.2.2), (h.d17), (h.d57), (fun _ k => by obtain ⟨_, _, x0, x1, x2, x3, e⟩ := h.o7 k; have := lt_of_block e; omega), (fun k => by have := (h.o8 k).1; rw [h0] at this; cases this), (fun k => g.o9 k)⟩
theorem P13.op7 {g10' : Nat} (h : P13 w3 pv qv rowc tp tq a0 L a w g4 g9 g10' l1 h1 l2 h2 u r) (hs : a0.tmps.size = 185) (h0 : L 7 = false) (z0 z1 z2 z3 : Value) : P13 w3 pv qv rowc tp tq a0 (more L 7) (a.put (some 21) (.pointer (some ⟨w.heap.size, 0, none⟩))) (w.alloc (.cells #[z0, z1, z2, z3] 25)) g4 g9 w.heap.size l1 h1 l2 h2 u r := by
  have g := h.grow (below_new w (.cells #[z0, z1, z2, z3] 25))
  refine ⟨(put_size.trans h.size), (put_defers'.trans h.defers), (fun s k1 k2 k3 k4 k5 k6 k7 k8 => (put_getD_ne (fun e => k8 (by injection e with e; exact e.symm))).trans (h.other s k1 k2 k3 k4 k5 k6 k7 k8)), (g.below), (fun k => by rw [put_getD_ne (by decide)]; exact g.o0 k), (fun k => by rw [put_getD_ne (by decide)]; exact g.o2 k), (fun k => by rw [put_getD_ne (by decide)]; exact g.o3 k), (fun k => by rw [put_getD_ne (by decide)]; exact g.o4 k), (fun k => by rw [put_getD_ne (by decide)]; exact g.o1 k), (fun k => by rw [put_getD_ne (by decide)]; exact g.o5 k), (fun k => by rw [put_getD_ne (by decide)]; exact g.o6 k), (fun _ => ⟨put_getD_eq (by rw [h.size, hs]; decide), h.below.size, z0, z1, z2, z3, heap_alloc_new w _⟩), (h.d16), (h.d56), (fun k _ => .inr (h.o1 k).2.2.2.2), (fun k _ => .inr (h.o5 k).2.2.2.2), (fun k _ => by obtain ⟨_, _, x0, x1, x2, x3, e⟩ := h.o6 k; have := lt_of_block e; omega), (fun k => g.o8 k), (fun k => by have := (h.o9 k).1; rw [h0] at this; cases this)⟩
/-- A box is written: what is said of the pair's row is given up. -/
theorem P13.store (h : P13 w3 pv qv rowc tp tq a0 L a w g4 g9 g10 l1 h1 l2 h2 u r) (i : Nat) (hi : i = 8 ∨ i = 9) (h0 : L i = false) {g : Nat} {x0 x1 x2 x3 : Value} (y0 y1 y2 y3 : Value) (hg : w.heap[g]? = some (.cells #[x0, x1, x2, x3] 25 (0, 0))) (hg3 : w3.heap.size ≤ g) (h1g : L 1 = true → g < l1 ∨ h1 ≤ g) (h5g : L 5 = true → g < l2 ∨ h2 ≤ g)
    (h8 : L 8 = true → g ≠ g9) (h9 : L 9 = true → g ≠ g10) (n8 : i = 8 → L 6 = true ∧ L 1 = true ∧ L 5 = true ∧ (put4 w g y0 y1 y2 y3).heap[g9]? = some (.cells #[.int .i64 u.kind, .int .u64 (u.a : Int), .int .u64 (u.b : Int), .slice u.addr u.parts.length u.cap] 25 (0, 0))) (n9 : i = 9 → L 7 = true ∧ L 5 = true ∧ (put4 w g y0 y1 y2 y3).heap[g10]? = some (.cells #[.int .i64 r.kind, .int .u64 (r.a : Int), .int .u64 (r.b : Int), .slice r.addr r.parts.length r.cap] 25 (0, 0))) :
    P13 w3 pv qv rowc tp tq a0 (more L i) a (put4 w g y0 y1 y2 y3) g4 g9 g10 l1 h1 l2 h2 u r := by
  have hr := put4_row hg y0 y1 y2 y3
  have lm : ∀ j, j ≠ 8 → j ≠ 9 → more L i j = L j := fun j j8 j9 => by unfold more; rw [if_neg (by omega)]
  have m0 := lm 0 (by omega) (by omega)
  have m1 := lm 1 (by omega) (by omega)
  have m2 := lm 2 (by omega) (by omega)
  have m3 := lm 3 (by omega) (by omega)
  have m4 := lm 4 (by omega) (by omega)
  have m5 := lm 5 (by omega) (by omega)
  have m6 := lm 6 (by omega) (by omega)
  have m7 := lm 7 (by omega) (by omega)
  refine ⟨h.size, h.defers, h.other, put4_below h.below hg3 _ _ _ _, fun k => h.o0 (m0 ▸ k), fun k => h.o2 (m2 ▸ k), fun k => h.o3 (m3 ▸ k), fun k => ⟨(h.o4 (m4 ▸ k)).1, fun k8 k9 => ?_⟩, fun k => ?_, fun k => ?_, fun k => ?_, fun k => ?_, fun k k' => h.d16 (m1 ▸ k) (m6 ▸ k'), fun k k' => h.d56 (m5 ▸ k) (m6 ▸ k'), fun k k' => h.d17 (m1 ▸ k) (m7 ▸ k'), fun k k' => h.d57 (m5 ▸ k) (m7 ▸ k'), fun k k' => h.d67 (m6 ▸ k) (m7 ▸ k'), fun k => ?_, fun k => ?_⟩
  · exfalso
    rcases hi with rfl | rfl
    · simp [more] at k8
    · simp [more] at k9
  · obtain ⟨e1, e2, e3, e4, e5⟩ := h.o1 (m1 ▸ k)
    exact ⟨e1, e2, e3.keep fun p k1 k2 => World.cell?_of_block (put4_else w (by have := h1g (m1 ▸ k); omega) _ _ _ _), e4, by rw [put4_size]; exact e5⟩
  · obtain ⟨e1, e2, e3, e4, e5⟩ := h.o5 (m5 ▸ k)
    exact ⟨e1, e2, e3.keep fun p k1 k2 => World.cell?_of_block (put4_else w (by have := h5g (m5 ▸ k); omega) _ _ _ _), e4, by rw [put4_size]; exact e5⟩
  · obtain ⟨e1, e2, v0, v1, v2, v3, e3⟩ := h.o6 (m6 ▸ k)
    by_cases e : g9 = g
    · subst e; exact ⟨e1, e2, _, _, _, _, hr⟩
    · exact ⟨e1, e2, v0, v1, v2, v3, (put4_else w e _ _ _ _).trans e3⟩
  · obtain ⟨e1, e2, v0, v1, v2, v3, e3⟩ := h.o7 (m7 ▸ k)
    by_cases e : g10 = g
    · subst e; exact ⟨e1, e2, _, _, _, _, hr⟩
    · exact ⟨e1, e2, v0, v1, v2, v3, (put4_else w e _ _ _ _).trans e3⟩
  · rw [m6, m1, m5]
    by_cases e8 : i = 8
    · exact n8 e8
    · have k' : L 8 = true := by unfold more at k; rwa [if_neg (fun e => e8 e.symm)] at k
      obtain ⟨e1, e2, e4, e3⟩ := h.o8 k'
      exact ⟨e1, e2, e4, (put4_else w (fun e => h8 k' e.symm) _ _ _ _).trans e3⟩
  · rw [m7, m5]
    by_cases e9 : i = 9
    · exact n9 e9
    · have k' : L 9 = true := by unfold more at k; rwa [if_neg (fun e => e9 e.symm)] at k
      obtain ⟨e1, e2, e3⟩ := h.o9 k'
      exact ⟨e1, e2, (put4_else w (fun e => h9 k' e.symm) _ _ _ _).trans e3⟩
theorem P13.op8 (h : P13 w3 pv qv rowc tp tq a0 L a w g4 g9 g10 l1 h1 l2 h2 u r) (h0 : L 8 = false) (k1 : L 1 = true) (k5 : L 5 = true) (k6 : L 6 = true) (k7 : L 7 = true) :
    P13 w3 pv qv rowc tp tq a0 (more L 8) a (put4 w g9 (.int .i64 u.kind) (.int .u64 (u.a : Int)) (.int .u64 (u.b : Int)) (.slice u.addr u.parts.length u.cap)) g4 g9 g10 l1 h1 l2 h2 u r := by
  obtain ⟨_, e2, x0, x1, x2, x3, e3⟩ := h.o6 k6
  exact h.store 8 (.inl rfl) h0 _ _ _ _ e3 e2 (fun k => h.d16 k k6) (fun k => h.d56 k k6) (fun k => by rw [h0] at k; cases k) (fun _ => h.d67 k6 k7) (fun _ => ⟨k6, k1, k5, put4_row e3 _ _ _ _⟩) (fun e => by omega)
theorem P13.op9 (h : P13 w3 pv qv rowc tp tq a0 L a w g4 g9 g10 l1 h1 l2 h2 u r) (h0 : L 9 = false) (k5 : L 5 = true) (k6 : L 6 = true) (k7 : L 7 = true) :
    P13 w3 pv qv rowc tp tq a0 (more L 9) a (put4 w g10 (.int .i64 r.kind) (.int .u64 (r.a : Int)) (.int .u64 (r.b : Int)) (.slice r.addr r.parts.length r.cap)) g4 g9 g10 l1 h1 l2 h2 u r := by
  obtain ⟨_, e2, x0, x1, x2, x3, e3⟩ := h.o7 k7
  exact h.store 9 (.inr rfl) h0 _ _ _ _ e3 e2 (fun k => h.d17 k k7) (fun k => h.d57 k k7) (fun _ e => h.d67 k6 k7 e.symm) (fun k => by rw [h0] at k; cases k) (fun e => by omega) (fun _ => ⟨k7, k5, put4_row e3 _ _ _ _⟩)
end
theorem P13.act {w3 : World} {pv qv : Value} {rowc : Obj} {tp tq : T} {a0 : Act} {L : Nat → Bool} {a : Act} {w : World} {g4 g9 g10 l1 h1 l2 h2 : Nat} {u r : V} (h : P13 w3 pv qv rowc tp tq a0 L a w g4 g9 g10 l1 h1 l2 h2 u r) (hs : a0.tmps.size = 185) (hL : ∀ i, i < 10 → L i = true) :
    a = ((((((((a0.put (some 143) pv).put (some 144) (.agg #[.int .i64 u.kind, .int .u64 (u.a : Int), .int .u64 (u.b : Int), .slice u.addr u.parts.length u.cap])).put (some 145) pv).put (some 146) qv).put (some 147) (.slice (some ⟨g4, 0, none⟩) 2 2)).put (some 148) (.agg #[.int .i64 r.kind, .int .u64 (r.a : Int), .int .u64 (r.b : Int), .slice r.addr r.parts.length r.cap])).put (some 20) (.pointer (some ⟨g9, 0, none⟩))).put (some 21) (.pointer (some ⟨g10, 0, none⟩))) := by
  have k143 := h.o0 (hL 0 (by omega))
  have k144 := (h.o1 (hL 1 (by omega))).1
  have k145 := h.o2 (hL 2 (by omega))
  have k146 := h.o3 (hL 3 (by omega))
  have k147 := (h.o4 (hL 4 (by omega))).1
  have k148 := (h.o5 (hL 5 (by omega))).1
  have k20 := (h.o6 (hL 6 (by omega))).1
  have k21 := (h.o7 (hL 7 (by omega))).1
  refine act_eq ?_ ?_ fun s => ?_
  · rw [put_size, put_size, put_size, put_size, put_size, put_size, put_size, put_size]; exact h.size
  · rw [put_defers', put_defers', put_defers', put_defers', put_defers', put_defers', put_defers', put_defers']; exact h.defers
  · by_cases e21 : s = 21
    · subst e21
      rw [put_getD_eq (by rw [put_size, put_size, put_size, put_size, put_size, put_size, put_size, hs]; decide)]
      exact k21
    rw [put_getD_ne (fun e => e21 (by injection e with e; exact e.symm))]
    by_cases e20 : s = 20
    · subst e20
      rw [put_getD_eq (by rw [put_size, put_size, put_size, put_size, put_size, put_size, hs]; decide)]
      exact k20
    rw [put_getD_ne (fun e => e20 (by injection e with e; exact e.symm))]
    by_cases e148 : s = 148
    · subst e148
      rw [put_getD_eq (by rw [put_size, put_size, put_size, put_size, put_size, hs]; decide)]
      exact k148
    rw [put_getD_ne (fun e => e148 (by injection e with e; exact e.symm))]
    by_cases e147 : s = 147
    · subst e147
      rw [put_getD_eq (by rw [put_size, put_size, put_size, put_size, hs]; decide)]
      exact k147
    rw [put_getD_ne (fun e => e147 (by injection e with e; exact e.symm))]
    by_cases e146 : s = 146
    · subst e146
      rw [put_getD_eq (by rw [put_size, put_size, put_size, hs]; decide)]
      exact k146
    rw [put_getD_ne (fun e => e146 (by injection e with e; exact e.symm))]
    by_cases e145 : s = 145
    · subst e145
      rw [put_getD_eq (by rw [put_size, put_size, hs]; decide)]
      exact k145
    rw [put_getD_ne (fun e => e145 (by injection e with e; exact e.symm))]
    by_cases e144 : s = 144
    · subst e144
      rw [put_getD_eq (by rw [put_size, hs]; decide)]
      exact k144
    rw [put_getD_ne (fun e => e144 (by injection e with e; exact e.symm))]
    by_cases e143 : s = 143
    · subst e143
      rw [put_getD_eq (by rw [hs]; decide)]
      exact k143
    rw [put_getD_ne (fun e => e143 (by injection e with e; exact e.symm))]
    exact h.other s e143 e144 e145 e146 e147 e148 e20 e21

end Go.Proofs.YtpbmgbeiieapiaaGreatDoor

namespace Go.Proofs.YtpbmgbeiieapiaaGreatDoor
open Go Go.RowKit
set_option linter.unusedVariables false

/-- A tree comes back that lies from lo on. -/
def LieEnd (t : T) (lo : Nat) (w : World) (e : Ending) (w' : World) : Prop :=
  ∃ u : V, e = .returned u.val ∧ u.abs = t ∧ Lies w' lo w'.heap.size u ∧ Below w.heap.size w w'

set_option maxRecDepth 100000 in
set_option maxHeartbeats 1600000 in
theorem rturn_any (k : Int) (a b : Nat) (A : Option Addr) (c : Nat) (ps : List V) (w : World) (lo hi : Nat) (hL : Lies w lo hi (.node k a b A c ps)) (hhi : hi ≤ w.heap.size) (hlo : lo ≤ w.heap.size) :
    Calls Tryz.prog 17 #[(V.node k a b A c ps).val] w (LieEnd (V.node k a b A c ps).abs.turn lo w) := by
  obtain ⟨hlen, hcap', hk, ha, hb⟩ := hL.caps
  have r1 := heap_alloc_new w (.cells #[.int .i64 k, .int .u64 (a : Int), .int .u64 (b : Int), .slice A ps.length c] 30)
  have b1 := below_new w (.cells #[.int .i64 k, .int .u64 (a : Int), .int .u64 (b : Int), .slice A ps.length c] 30)
  have s1 : (w.alloc (.cells #[.int .i64 k, .int .u64 (a : Int), .int .u64 (b : Int), .slice A ps.length c] 30)).heap.size = w.heap.size + 1 := by simp
  have r2 := heap_alloc_new (w.alloc (.cells #[.int .i64 k, .int .u64 (a : Int), .int .u64 (b : Int), .slice A ps.length c] 30)) (.cells #[.int .i64 0, .int .u64 0, .int .u64 0, .slice none 0 0] 30)
  have b2 := below_new (w.alloc (.cells #[.int .i64 k, .int .u64 (a : Int), .int .u64 (b : Int), .slice A ps.length c] 30)) (.cells #[.int .i64 0, .int .u64 0, .int .u64 0, .slice none 0 0] 30)
  rw [s1] at r2 b2
  have s2 : ((w.alloc (.cells #[.int .i64 k, .int .u64 (a : Int), .int .u64 (b : Int), .slice A ps.length c] 30)).alloc (.cells #[.int .i64 0, .int .u64 0, .int .u64 0, .slice none 0 0] 30)).heap.size = w.heap.size + 2 := by simp
  have r12 := (b2.block _ (by omega)).trans r1
  have hbw := b1.trans (b2.mono (by omega))
  have hL2 := hL.under (hbw.mono hhi)
  clear r1 b1 s1 b2 hL
  simp only [V.val, V.kind, V.a, V.b, V.sl, V.addr, V.parts, V.cap]
  go_enter Tryz.func17, Tryz.ntmps17
  go_upto_region 1 with (fail)
  generalize (w.alloc (.cells #[.int .i64 k, .int .u64 (a : Int), .int .u64 (b : Int), .slice A ps.length c] 30)).alloc (.cells #[.int .i64 0, .int .u64 0, .int .u64 0, .slice none 0 0] 30) = w1 at *
  have b0 : w1.cell? ⟨w.heap.size, 0, none⟩ = some (.int .i64 k) := cell_of_row w1 _ 0 _ _ _ r12
  have b1 : w1.cell? ⟨w.heap.size, 1, none⟩ = some (.int .u64 (a : Int)) := cell_of_row w1 _ 1 _ _ _ r12
  have b2 : w1.cell? ⟨w.heap.size, 2, none⟩ = some (.int .u64 (b : Int)) := cell_of_row w1 _ 2 _ _ _ r12
  have b3 : w1.cell? ⟨w.heap.size, 3, none⟩ = some (.slice A ps.length c) := cell_of_row w1 _ 3 _ _ _ r12
  have hgl := (Array.getElem?_eq_some_iff.1 r2).1
  by_cases hsp : k = 5 ∧ ps.length = 1
  · obtain ⟨rfl, h1⟩ := hsp
    obtain ⟨q, rfl⟩ : ∃ q, ps = [q] := by
      match ps, h1 with
      | [q], _ => exact ⟨q, rfl⟩
    obtain ⟨bb, off, q', eA, hbb, hlb, hq', hLq, d0, d1, d2, d3⟩ := hL2.nth (i := 0) (by simp)
    obtain rfl : q' = q := by simpa using hq'.symm
    subst eA
    have c0 : w1.cell? ⟨w.heap.size + 1, 0, none⟩ = some (.int .i64 0) := cell_of_row w1 _ 0 _ _ _ r2
    have c1' : w1.cell? ⟨w.heap.size + 1, 1, none⟩ = some (.int .u64 0) := cell_of_row w1 _ 1 _ _ _ r2
    have c2 : w1.cell? ⟨w.heap.size + 1, 2, none⟩ = some (.int .u64 0) := cell_of_row w1 _ 2 _ _ _ r2
    have c3 : w1.cell? ⟨w.heap.size + 1, 3, none⟩ = some (.slice none 0 0) := cell_of_row w1 _ 3 _ _ _ r2
    have z0 := frozen_of_row w1 (w.heap.size + 1) 0 _ _ r2
    have z1 := frozen_of_row w1 (w.heap.size + 1) 1 _ _ r2
    have z2 := frozen_of_row w1 (w.heap.size + 1) 2 _ _ r2
    have z3 := frozen_of_row w1 (w.heap.size + 1) 3 _ _ r2
    have HF : Hid (LieEnd (V.node 5 a b (some ⟨bb, off, none⟩) c [q']).abs.turn lo w (.returned (.agg #[.int .i64 q'.kind, .int .u64 (q'.a : Int), .int .u64 (q'.b : Int), q'.sl])) (put4 w1 (w.heap.size + 1) (.int .i64 q'.kind) (.int .u64 (q'.a : Int)) (.int .u64 (q'.b : Int)) q'.sl)) := by
      refine ⟨q', rfl, by rw [V.abs, V.absL, V.absL, T.turn_one], ?_, put4_below hbw (by omega) _ _ _ _⟩
      rw [put4_size]
      exact (hLq.keep fun p _ h1 => World.cell?_of_block (put4_else w1 (by omega) _ _ _ _)).more (by omega) (by omega)
    have HR : Hid ((put4 w1 (w.heap.size + 1) (.int .i64 q'.kind) (.int .u64 (q'.a : Int)) (.int .u64 (q'.b : Int)) q'.sl).heap[w.heap.size + 1]? = _) := put4_row r2 _ _ _ _
    simp only [Nat.zero_mul, Nat.add_zero] at d0 d1 d2 d3
    have hps : q'.sl = .slice q'.addr q'.parts.length q'.cap := rfl
    rw [hps] at d3 HF HR
    clear hps hLq hL2 hbw r2 r12 hq'
    generalize q'.addr = pA at *
    generalize q'.cap = pc at *
    generalize q'.parts.length = pn at *
    generalize q'.kind = x0 at *
    generalize (q'.a : Int) = x1 at *
    generalize (q'.b : Int) = x2 at *
    go_wp2_with fail
    show bodyPost _ _ _ _ _ (put4 w1 (w.heap.size + 1) (.int .i64 x0) (.int .u64 x1) (.int .u64 x2) (.slice pA pn pc))
    have HR2 := HR.out
    have HF2 := HF.out
    clear HR HF c0 c1' c2 c3 z0 z1 z2 z3
    generalize put4 w1 (w.heap.size + 1) (.int .i64 x0) (.int .u64 x1) (.int .u64 x2) (.slice pA pn pc) = W at *
    have d0 : W.cell? ⟨w.heap.size + 1, 0, none⟩ = some (.int .i64 x0) := cell_of_row W _ 0 _ _ _ HR2
    have d1 : W.cell? ⟨w.heap.size + 1, 1, none⟩ = some (.int .u64 x1) := cell_of_row W _ 1 _ _ _ HR2
    have d2 : W.cell? ⟨w.heap.size + 1, 2, none⟩ = some (.int .u64 x2) := cell_of_row W _ 2 _ _ _ HR2
    have d3 : W.cell? ⟨w.heap.size + 1, 3, none⟩ = some (.slice pA pn pc) := cell_of_row W _ 3 _ _ _ HR2
    exact bodyPost_ret (v := .agg #[.int .i64 x0, .int .u64 x1, .int .u64 x2, .slice pA pn pc]) (by simp [results, Tryz.results17, go_sem, d0, d1, d2, d3]) rfl HF2
  · obtain ⟨W2, hW2⟩ : ∃ W2, W2 = w1.alloc (.cells #[.int .i64 k, .int .u64 (a : Int), .int .u64 (b : Int), .slice A ps.length c] 30) := ⟨_, rfl⟩
    have g3 := below_new w1 (.cells #[.int .i64 k, .int .u64 (a : Int), .int .u64 (b : Int), .slice A ps.length c] 30)
    have hs := hL2.single (by omega) (by omega) 30
    have hs2 : W2.heap.size = w.heap.size + 3 := by rw [hW2]; simp [s2]
    rw [← hW2] at g3 hs
    rw [s2] at g3 hs
    have r22 : W2.heap[w.heap.size + 1]? = _ := (g3.block _ (by omega)).trans r2
    have hbw2 := hbw.trans (g3.mono (by omega))
    have HF : Hid (LieEnd (V.node k a b A c ps).abs.turn lo w (.returned (.agg #[.int .i64 5, .int .u64 0, .int .u64 0, .slice (some ⟨w.heap.size + 2, 0, none⟩) 1 1])) (put4 W2 (w.heap.size + 1) (.int .i64 5) (.int .u64 0) (.int .u64 0) (.slice (some ⟨w.heap.size + 2, 0, none⟩) 1 1))) := by
      refine ⟨.node 5 0 0 (some ⟨w.heap.size + 2, 0, none⟩) 1 [.node k a b A c ps], rfl, by rw [V.abs, V.absL, V.absL, V.abs, T.turn_else _ _ _ _ (by rw [absL_length]; omega)], ?_, put4_below hbw2 (by omega) _ _ _ _⟩
      rw [put4_size]
      have ht := hs.top.2.2.2.2.2
      refine .mk _ _ _ _ _ _ (by omega) (by omega) (by omega) ⟨ht.len, fun hn => ?_⟩ (by simp) (fun ad e _ => by injection e with e; subst e; show lo ≤ w.heap.size + 2; omega) (fun q hq => ?_)
      · obtain ⟨ad, e, hb, hc⟩ := ht.lies hn
        refine ⟨ad, e, by omega, fun j u hu => ?_⟩
        have had : ad.block = w.heap.size + 2 := by have e' : some ⟨w.heap.size + 2, 0, none⟩ = some ad := e; injection e' with e'; rw [← e']
        exact (World.cell?_of_block (put4_else W2 (by rw [add_block]; omega) _ _ _ _)).trans (hc j u hu)
      · obtain rfl : q = .node k a b A c ps := by simpa using hq
        exact ((hL2.under (g3.mono (by omega))).keep fun p _ h1 => World.cell?_of_block (put4_else W2 (by omega) _ _ _ _)).more (Nat.le_refl _) (by omega)
    have HR : Hid ((put4 W2 (w.heap.size + 1) (.int .i64 5) (.int .u64 0) (.int .u64 0) (.slice (some ⟨w.heap.size + 2, 0, none⟩) 1 1)).heap[w.heap.size + 1]? = _) := put4_row r22 _ _ _ _
    have c0 : W2.cell? ⟨w.heap.size + 1, 0, none⟩ = some (.int .i64 0) := cell_of_row W2 _ 0 _ _ _ r22
    have c1' : W2.cell? ⟨w.heap.size + 1, 1, none⟩ = some (.int .u64 0) := cell_of_row W2 _ 1 _ _ _ r22
    have c2 : W2.cell? ⟨w.heap.size + 1, 2, none⟩ = some (.int .u64 0) := cell_of_row W2 _ 2 _ _ _ r22
    have c3 : W2.cell? ⟨w.heap.size + 1, 3, none⟩ = some (.slice none 0 0) := cell_of_row W2 _ 3 _ _ _ r22
    have z0 := frozen_of_row W2 (w.heap.size + 1) 0 _ _ r22
    have z1 := frozen_of_row W2 (w.heap.size + 1) 1 _ _ r22
    have z2 := frozen_of_row W2 (w.heap.size + 1) 2 _ _ r22
    have z3 := frozen_of_row W2 (w.heap.size + 1) 3 _ _ r22
    have e0 : w1.cell? ⟨w.heap.size + 1, 0, none⟩ = some (.int .i64 0) := cell_of_row w1 _ 0 _ _ _ r2
    have e1 : w1.cell? ⟨w.heap.size + 1, 1, none⟩ = some (.int .u64 0) := cell_of_row w1 _ 1 _ _ _ r2
    have e2 : w1.cell? ⟨w.heap.size + 1, 2, none⟩ = some (.int .u64 0) := cell_of_row w1 _ 2 _ _ _ r2
    have e3 : w1.cell? ⟨w.heap.size + 1, 3, none⟩ = some (.slice none 0 0) := cell_of_row w1 _ 3 _ _ _ r2
    have y0 := frozen_of_row w1 (w.heap.size + 1) 0 _ _ r2
    have y1 := frozen_of_row w1 (w.heap.size + 1) 1 _ _ r2
    have y2 := frozen_of_row w1 (w.heap.size + 1) 2 _ _ r2
    have y3 := frozen_of_row w1 (w.heap.size + 1) 3 _ _ r2
    have hcases : k ≠ 5 ∨ (k = 5 ∧ ps.length ≠ 1) := by omega
    subst hW2
    clear hs hs2 g3 r22 hbw2 hL2 hbw r2 r12 hsp
    rcases hcases with h5 | ⟨rfl, h1⟩
    · have e5 : decide (k = 5) = false := by simp [h5]
      go_wp2_with fail
      have hcm : (put4 w1 (w.heap.size + 1) (.int .i64 5) (.int .u64 0) (.int .u64 0) (.slice (some ⟨w.heap.size + 2, 0, none⟩) 1 1)).alloc (.cells #[.int .i64 k, .int .u64 (a : Int), .int .u64 (b : Int), .slice A ps.length c] 30) = put4 (w1.alloc (.cells #[.int .i64 k, .int .u64 (a : Int), .int .u64 (b : Int), .slice A ps.length c] 30)) (w.heap.size + 1) (.int .i64 5) (.int .u64 0) (.int .u64 0) (.slice (some ⟨w.heap.size + 2, 0, none⟩) 1 1) := by simp [put4, go_sem, hgl]
      show bodyPost _ _ _ _ _ ((put4 w1 (w.heap.size + 1) (.int .i64 5) (.int .u64 0) (.int .u64 0) (.slice (some ⟨w.heap.size + 2, 0, none⟩) 1 1)).alloc (.cells #[.int .i64 k, .int .u64 (a : Int), .int .u64 (b : Int), .slice A ps.length c] 30))
      rw [hcm]
      clear hcm
      have HR2 := HR.out
      have HF2 := HF.out
      clear HR HF c0 c1' c2 c3 z0 z1 z2 z3 e0 e1 e2 e3 y0 y1 y2 y3
      generalize put4 (w1.alloc _) (w.heap.size + 1) (.int .i64 5) (.int .u64 0) (.int .u64 0) (.slice (some ⟨w.heap.size + 2, 0, none⟩) 1 1) = W at *
      have d0 : W.cell? ⟨w.heap.size + 1, 0, none⟩ = some (.int .i64 5) := cell_of_row W _ 0 _ _ _ HR2
      have d1 : W.cell? ⟨w.heap.size + 1, 1, none⟩ = some (.int .u64 0) := cell_of_row W _ 1 _ _ _ HR2
      have d2 : W.cell? ⟨w.heap.size + 1, 2, none⟩ = some (.int .u64 0) := cell_of_row W _ 2 _ _ _ HR2
      have d3 : W.cell? ⟨w.heap.size + 1, 3, none⟩ = some (.slice (some ⟨w.heap.size + 2, 0, none⟩) 1 1) := cell_of_row W _ 3 _ _ _ HR2
      exact bodyPost_ret (v := .agg #[.int .i64 5, .int .u64 0, .int .u64 0, .slice (some ⟨w.heap.size + 2, 0, none⟩) 1 1]) (by simp [results, Tryz.results17, go_sem, d0, d1, d2, d3]) rfl HF2
    · have e5 : decide ((ps.length : Int) = 1) = false := by simp; omega
      go_wp2_with fail
      have hcm : (put4 w1 (w.heap.size + 1) (.int .i64 5) (.int .u64 0) (.int .u64 0) (.slice (some ⟨w.heap.size + 2, 0, none⟩) 1 1)).alloc (.cells #[.int .i64 5, .int .u64 (a : Int), .int .u64 (b : Int), .slice A ps.length c] 30) = put4 (w1.alloc (.cells #[.int .i64 5, .int .u64 (a : Int), .int .u64 (b : Int), .slice A ps.length c] 30)) (w.heap.size + 1) (.int .i64 5) (.int .u64 0) (.int .u64 0) (.slice (some ⟨w.heap.size + 2, 0, none⟩) 1 1) := by simp [put4, go_sem, hgl]
      show bodyPost _ _ _ _ _ ((put4 w1 (w.heap.size + 1) (.int .i64 5) (.int .u64 0) (.int .u64 0) (.slice (some ⟨w.heap.size + 2, 0, none⟩) 1 1)).alloc (.cells #[.int .i64 5, .int .u64 (a : Int), .int .u64 (b : Int), .slice A ps.length c] 30))
      rw [hcm]
      clear hcm
      have HR2 := HR.out
      have HF2 := HF.out
      clear HR HF c0 c1' c2 c3 z0 z1 z2 z3 e0 e1 e2 e3 y0 y1 y2 y3
      generalize put4 (w1.alloc _) (w.heap.size + 1) (.int .i64 5) (.int .u64 0) (.int .u64 0) (.slice (some ⟨w.heap.size + 2, 0, none⟩) 1 1) = W at *
      have d0 : W.cell? ⟨w.heap.size + 1, 0, none⟩ = some (.int .i64 5) := cell_of_row W _ 0 _ _ _ HR2
      have d1 : W.cell? ⟨w.heap.size + 1, 1, none⟩ = some (.int .u64 0) := cell_of_row W _ 1 _ _ _ HR2
      have d2 : W.cell? ⟨w.heap.size + 1, 2, none⟩ = some (.int .u64 0) := cell_of_row W _ 2 _ _ _ HR2
      have d3 : W.cell? ⟨w.heap.size + 1, 3, none⟩ = some (.slice (some ⟨w.heap.size + 2, 0, none⟩) 1 1) := cell_of_row W _ 3 _ _ _ HR2
      exact bodyPost_ret (v := .agg #[.int .i64 5, .int .u64 0, .int .u64 0, .slice (some ⟨w.heap.size + 2, 0, none⟩) 1 1]) (by simp [results, Tryz.results17, go_sem, d0, d1, d2, d3]) rfl HF2
end Go.Proofs.YtpbmgbeiieapiaaGreatDoor

namespace Go.Proofs.YtpbmgbeiieapiaaGreatDoor
open Go Go.RowKit
set_option linter.unusedVariables false

set_option maxRecDepth 100000 in
theorem few_any (v : V) (w : World) (lo hi : Nat) (hL : Lies w lo hi v) (hhi : hi ≤ w.heap.size) :
    Calls Tryz.prog 8 #[v.val] w fun e w' => e = .returned (.bool (decide (v.abs.count ≤ 60))) ∧ Below w.heap.size w w' := by
  have hb0 := below_new w (.cells #[.int .i64 v.kind, .int .u64 (v.a : Int), .int .u64 (v.b : Int), v.sl] 25)
  have DN := dnodes_any v 60 (w.alloc (.cells #[.int .i64 v.kind, .int .u64 (v.a : Int), .int .u64 (v.b : Int), v.sl] 25)) lo hi (hL.under (hb0.mono hhi)) (by have := hb0.size; omega) (by omega) (by omega)
  have hn : decide ((0 : Int) ≤ nl v.abs.count 60) = decide (v.abs.count ≤ 60) := by
    by_cases h : v.abs.count ≤ 60
    · rw [nl_yes (by omega), decide_eq_true h, decide_eq_true (by omega)]
    · rw [nl_no (by omega), decide_eq_false h, decide_eq_false (by omega)]
  have HN := Lib_hid hn
  clear hn hL
  simp only [V.val, V.sl] at DN hb0 ⊢
  generalize v.kind = x0 at *
  generalize (v.a : Int) = x1 at *
  generalize (v.b : Int) = x2 at *
  generalize v.addr = pA at *
  generalize v.parts.length = pn at *
  generalize v.cap = pc at *
  generalize nl v.abs.count 60 = z at *
  generalize decide (v.abs.count ≤ 60) = r at *
  go_enter Tryz.func8, Tryz.ntmps8
  go_wp2_with fail
  refine DN.mono ?_
  rintro e w1 ⟨rfl, hb1⟩
  have hbw := hb0.trans (hb1.mono hb0.size)
  clear DN hb1 hb0
  go_wp2_with fail
  go_ret
  exact ⟨ret_b HN.out, hbw⟩

theorem raw_row2 {w : World} {g : Nat} {E : TypeId} {x0 x1 x2 x3 x4 x5 x6 x7 : Value} (hr : w.heap[g]? = some (.cells #[x0, x1, x2, x3, x4, x5, x6, x7] E (0, 0))) : Rd w (g + 1) 4 (some ⟨g, 0, none⟩) 2 [x0, x1, x2, x3, x4, x5, x6, x7] := by
  refine ⟨rfl, fun _ => ⟨_, rfl, by simp, fun j x hx => ?_⟩⟩
  have e : (⟨g, 0, none⟩ : Addr).add j = ⟨g, j, none⟩ := by unfold Addr.add; split <;> simp_all
  rw [e, cell_of_row _ _ j _ _ _ hr, ← hx]
  simp
/-- Two trees in a row that lies. -/
theorem pair_lies {w : World} {g lp hp lq hq hi : Nat} {E : TypeId} {p q : V} {k : Int} (hk : 0 ≤ k ∧ k ≤ 100) (hr : w.heap[g]? = some (.cells #[.int .i64 p.kind, .int .u64 (p.a : Int), .int .u64 (p.b : Int), .slice p.addr p.parts.length p.cap, .int .i64 q.kind, .int .u64 (q.a : Int), .int .u64 (q.b : Int), .slice q.addr q.parts.length q.cap] E (0, 0))) (h1 : Lies w lp hp p) (h2 : Lies w lq hq q) (h3 : hp ≤ hi) (h4 : hq ≤ hi) (h5 : g < hi) :
    Lies w 0 hi (.node k 0 0 (some ⟨g, 0, none⟩) 2 [p, q]) := by
  refine .mk _ _ _ _ _ _ (by omega) (by omega) (by omega) ((raw_row2 hr).more (by omega)) (by simp) (fun _ _ _ => Nat.zero_le _) (fun x hx => ?_)
  simp only [List.mem_cons, List.not_mem_nil, or_false] at hx
  rcases hx with rfl | rfl
  · exact h1.more (Nat.zero_le _) h3
  · exact h2.more (Nat.zero_le _) h4
theorem turn_count (t : T) : t.turn.count ≤ t.count + 1 := by
  obtain ⟨k, a, b, ps⟩ := t
  by_cases h : k ≠ 5 ∨ ps.length ≠ 1
  · rw [T.turn_else k a b ps h]
    simp only [T.count, T.countL]
    omega
  · have h5 : k = 5 := by omega
    obtain ⟨q, rfl⟩ : ∃ q, ps = [q] := by
      match ps, (show ps.length = 1 by omega) with
      | [q], _ => exact ⟨q, rfl⟩
    subst h5
    rw [T.turn_one]
    simp only [T.count, T.countL]
    omega
theorem turnV_any (p : V) (w : World) (lo hi : Nat) (hL : Lies w lo hi p) (hhi : hi ≤ w.heap.size) (hlo : lo ≤ w.heap.size) (hct : p.abs.count ≤ 900) :
    Calls Tryz.prog 13 #[p.val] w (TreeEnd p.abs.turn w) := by
  obtain ⟨k, a, b, A, c, ps⟩ := p
  exact turn_any k a b A c ps w lo hi hL hhi hlo hct
theorem rturnV_any (p : V) (w : World) (lo hi : Nat) (hL : Lies w lo hi p) (hhi : hi ≤ w.heap.size) (hlo : lo ≤ w.heap.size) :
    Calls Tryz.prog 17 #[p.val] w (LieEnd p.abs.turn lo w) := by
  obtain ⟨k, a, b, A, c, ps⟩ := p
  exact rturn_any k a b A c ps w lo hi hL hhi hlo

end Go.Proofs.YtpbmgbeiieapiaaGreatDoor

namespace Go.Proofs.YtpbmgbeiieapiaaGreatDoor
open Go Go.RowKit
set_option linter.unusedVariables false

theorem ans_open {f : FuncId} {args : Array Value} {w : World} {E : TypeId} {t : T} {z : Nat} (h : Calls Tryz.prog f args w (AnsEnd E (t, z) w)) :
    Calls Tryz.prog f args w fun e w' => ∃ u : V, e = .returned (.tuple #[.agg #[.int .i64 u.kind, .int .u64 (u.a : Int), .int .u64 (u.b : Int), .slice u.addr u.parts.length u.cap], .int .i64 (z : Int)]) ∧ u.abs = t ∧ Lies w' w.heap.size w'.heap.size u ∧ Shp E w' w.heap.size u ∧ Below w.heap.size w w' := h
theorem bs8 : bs [6, 2, 2, 7, 5, 4, 3, 1] = [.int .u8 6, .int .u8 2, .int .u8 2, .int .u8 7, .int .u8 5, .int .u8 4, .int .u8 3, .int .u8 1] := rfl

set_option maxRecDepth 100000 in
set_option maxHeartbeats 6400000 in
theorem works4_any (B : Nat) (w : World) (hE : Env B w) (hB : B ≤ w.heap.size) : Calls Tryz.prog 9 #[] w fun e w' => e = .returned (.bool true) ∧ Below w.heap.size w w' := by
  have RD : Hid (∀ (s : List UInt8) (W : World), Below w.heap.size w W → s.length ≤ 1000 → Calls Tryz.prog 37 #[.string ⟨s.toArray⟩] W (AnsEnd 25 (ansT (readT s)) W)) := fun s W h hl => pread_any s B W (hE.under h hB) (by have := h.size; omega) (by omega)
  have R1 := RD.out [38, 40, 120, 60, 61, 55, 44, 33, 118, 37, 51, 61, 49, 41] w (Below.refl _ _) (by decide)
  rw [ex1] at R1
  have R1 := ans_open R1
  clear hE
  go_enter Tryz.func9, Tryz.ntmps9
  go_wp2_with fail
  refine R1.mono ?_
  rintro e w1 ⟨u, rfl, hu, hL, -, hb1⟩
  have s1 := hb1.size
  have bx := below_new w1 (.cells #[.int .i64 u.kind, .int .u64 (u.a : Int), .int .u64 (u.b : Int), .slice u.addr u.parts.length u.cap] 25)
  have rx := heap_alloc_new w1 (.cells #[.int .i64 u.kind, .int .u64 (u.a : Int), .int .u64 (u.b : Int), .slice u.addr u.parts.length u.cap] 25)
  have sx : (w1.alloc (.cells #[.int .i64 u.kind, .int .u64 (u.a : Int), .int .u64 (u.b : Int), .slice u.addr u.parts.length u.cap] 25)).heap.size = w1.heap.size + 1 := by simp
  clear R1
  go_upto_region 2 with (fail)
  generalize w1.alloc (.cells #[.int .i64 u.kind, .int .u64 (u.a : Int), .int .u64 (u.b : Int), .slice u.addr u.parts.length u.cap] 25) = w2 at *
  have hLW : Hid (∀ W, Below w2.heap.size w2 W → Lies W w.heap.size w1.heap.size u) := fun W hW => (hL.under bx).under (hW.mono bx.size)
  have hct : u.abs.count ≤ 1000 := by rw [hu]; decide
  have HC : Hid (∀ W, Below w2.heap.size w2 W → W.cell? ⟨w1.heap.size, 0, none⟩ = some (.int .i64 u.kind) ∧ W.cell? ⟨w1.heap.size, 1, none⟩ = some (.int .u64 (u.a : Int)) ∧ W.cell? ⟨w1.heap.size, 2, none⟩ = some (.int .u64 (u.b : Int)) ∧ W.cell? ⟨w1.heap.size, 3, none⟩ = some (.slice u.addr u.parts.length u.cap)) := fun W hW => by
    have hx := (hW.block w1.heap.size (by omega)).trans rx
    exact ⟨(cell_of_row W _ 0 _ _ _ hx).trans rfl, (cell_of_row W _ 1 _ _ _ hx).trans rfl, (cell_of_row W _ 2 _ _ _ hx).trans rfl, (cell_of_row W _ 3 _ _ _ hx).trans rfl⟩
  have PU : Hid (∀ W, Below w2.heap.size w2 W → Calls Tryz.prog 11 #[.agg #[.int .i64 u.kind, .int .u64 (u.a : Int), .int .u64 (u.b : Int), .slice u.addr u.parts.length u.cap]] W (Made 5 [6, 2, 2, 7, 5, 4, 3, 1] W)) := fun W hW => by
    have := pput_any u W _ _ (hLW.out W hW) (by have := hW.size; omega)
    rw [hu, ex_put] at this
    exact this
  have HO : Hid (∀ (x y : Nat) (r : Bool) (W : World), Below w2.heap.size w2 W → x < 100 → y < 100 → (exT.rightB && exT.askB x y) = r → Calls Tryz.prog 26 #[.agg #[.int .i64 u.kind, .int .u64 (u.a : Int), .int .u64 (u.b : Int), .slice u.addr u.parts.length u.cap], .int .u64 (x : Int), .int .u64 (y : Int)] W fun e w' => e = .returned (.bool r) ∧ Below W.heap.size W w') := fun x y r W hW hx hy hr => by
    have := pholds_any x y (by omega) (by omega) u W _ _ (hLW.out W hW) (by have := hW.size; omega) hct
    rw [hu, hr] at this
    exact this
  have DP : Hid (∀ W, Below w2.heap.size w2 W → Calls Tryz.prog 22 #[.agg #[.int .i64 u.kind, .int .u64 (u.a : Int), .int .u64 (u.b : Int), .slice u.addr u.parts.length u.cap]] W fun e w' => e = .returned (.int .i64 3) ∧ Below W.heap.size W w') := fun W hW => by
    have := pdepth_any u W _ _ (hLW.out W hW) (by have := hW.size; omega) hct
    rw [hu] at this
    exact this
  have ND : Hid (∀ W, Below w2.heap.size w2 W → Calls Tryz.prog 24 #[.agg #[.int .i64 u.kind, .int .u64 (u.a : Int), .int .u64 (u.b : Int), .slice u.addr u.parts.length u.cap]] W fun e w' => e = .returned (.int .i64 4) ∧ Below W.heap.size W w') := fun W hW => by
    have := pnodes_any u W _ _ (hLW.out W hW) (by have := hW.size; omega) hct
    rw [hu] at this
    exact this
  have bw2 := hb1.trans (bx.mono s1)
  clear hL hLW hu hct bx rx
  have cw1 := Below.refl w2.heap.size w2
  have R2 := RD.out [118, 37, 51, 61, 51] w2 bw2 (by decide)
  rw [ex2] at R2
  have R2 := ans_open R2
  go_wp2_with fail
  refine R2.mono ?_
  rintro e v2 ⟨u2, rfl, -, -, -, hv2⟩
  have bv2 := below_new v2 (.cells #[.int .i64 u2.kind, .int .u64 (u2.a : Int), .int .u64 (u2.b : Int), .slice u2.addr u2.parts.length u2.cap] 25)
  have c2 := cw1.trans (hv2.mono cw1.size)
  have cw2 := c2.trans (bv2.mono c2.size)
  clear R2 hv2 bv2 c2 cw1
  go_upto_region 3 with (fail)
  generalize v2.alloc (.cells #[.int .i64 u2.kind, .int .u64 (u2.a : Int), .int .u64 (u2.b : Int), .slice u2.addr u2.parts.length u2.cap] 25) = w3 at *
  have R3 := RD.out [120, 60, 61, 48, 55] w3 (bw2.trans (cw2.mono bw2.size)) (by decide)
  rw [ex3] at R3
  have R3 := ans_open R3
  go_wp2_with fail
  refine R3.mono ?_
  rintro e v3 ⟨u3, rfl, -, -, -, hv3⟩
  have bv3 := below_new v3 (.cells #[.int .i64 u3.kind, .int .u64 (u3.a : Int), .int .u64 (u3.b : Int), .slice u3.addr u3.parts.length u3.cap] 25)
  have c3 := cw2.trans (hv3.mono cw2.size)
  have cw3 := c3.trans (bv3.mono c3.size)
  clear R3 hv3 bv3 c3 cw2
  go_upto_region 4 with (fail)
  generalize v3.alloc (.cells #[.int .i64 u3.kind, .int .u64 (u3.a : Int), .int .u64 (u3.b : Int), .slice u3.addr u3.parts.length u3.cap] 25) = w4 at *
  have R4 := RD.out [38, 40, 97, 108, 108, 44, 41] w4 (bw2.trans (cw3.mono bw2.size)) (by decide)
  rw [ex4] at R4
  have R4 := ans_open R4
  go_wp2_with fail
  refine R4.mono ?_
  rintro e v4 ⟨u4, rfl, -, -, -, hv4⟩
  have bv4 := below_new v4 (.cells #[.int .i64 u4.kind, .int .u64 (u4.a : Int), .int .u64 (u4.b : Int), .slice u4.addr u4.parts.length u4.cap] 25)
  have c4 := cw3.trans (hv4.mono cw3.size)
  have cw4 := c4.trans (bv4.mono c4.size)
  clear R4 hv4 bv4 c4 cw3
  go_upto_region 5 with (fail)
  generalize v4.alloc (.cells #[.int .i64 u4.kind, .int .u64 (u4.a : Int), .int .u64 (u4.b : Int), .slice u4.addr u4.parts.length u4.cap] 25) = w5 at *
  have P5 := PU.out w5 cw4
  obtain ⟨d0, d1, d2, d3⟩ := HC.out w5 cw4
  clear RD
  go_wp2_with fail
  refine P5.mono ?_
  rintro e w6 ⟨A6, c6, rfl, ho6, hb6⟩
  have cw6 := cw4.trans (hb6.mono cw4.size)
  have hnew := below_new w6 (.cells #[.int .u8 6, .int .u8 2, .int .u8 2, .int .u8 7, .int .u8 5, .int .u8 4, .int .u8 3, .int .u8 1] 5)
  have hlit := World.ownsRow_lit (base := w6.heap.size) (e := 5) (size := 1) w6 #[.int .u8 6, .int .u8 2, .int .u8 2, .int .u8 7, .int .u8 5, .int .u8 4, .int .u8 3, .int .u8 1] 8 (Nat.le_refl _) (by decide) rfl
  have SB := same_any _ _ A6 (some ⟨w6.heap.size, 0, none⟩) 8 8 c6 8 [6, 2, 2, 7, 5, 4, 3, 1] [6, 2, 2, 7, 5, 4, 3, 1] _ (Rd.own (own_below ho6 hnew (own_lt ho6))) (Rd.own hlit) (by omega)
  rw [eqB_self] at SB
  have cw7 := cw6.trans (hnew.mono cw6.size)
  clear P5 d0 d1 d2 d3 ho6 hb6 cw4 hnew hlit
  go_wp2_with fail
  refine SB.mono ?_
  rintro e w7 ⟨rfl, q, rfl⟩
  have cw8 := below_drew_ cw7 (n := q)
  generalize (w6.alloc (.cells #[.int .u8 6, .int .u8 2, .int .u8 2, .int .u8 7, .int .u8 5, .int .u8 4, .int .u8 3, .int .u8 1] 5)).drewN q = w8 at *
  clear SB cw7 cw6
  have H0 : Calls Tryz.prog 26 #[.agg #[.int .i64 u.kind, .int .u64 (u.a : Int), .int .u64 (u.b : Int), .slice u.addr u.parts.length u.cap], .int .u64 7, .int .u64 5] w8 fun e w' => e = .returned (.bool true) ∧ Below w8.heap.size w8 w' := HO.out 7 5 true w8 cw8 (by omega) (by omega) (by rfl)
  obtain ⟨d0, d1, d2, d3⟩ := HC.out w8 cw8
  go_wp2_with fail
  refine H0.mono ?_
  rintro e w9 ⟨rfl, hb9⟩
  have cw9 := cw8.trans (hb9.mono cw8.size)
  clear H0 hb9 d0 d1 d2 d3
  have H1 : Calls Tryz.prog 26 #[.agg #[.int .i64 u.kind, .int .u64 (u.a : Int), .int .u64 (u.b : Int), .slice u.addr u.parts.length u.cap], .int .u64 7, .int .u64 4] w9 fun e w' => e = .returned (.bool false) ∧ Below w9.heap.size w9 w' := HO.out 7 4 false w9 cw9 (by omega) (by omega) (by rfl)
  obtain ⟨d0, d1, d2, d3⟩ := HC.out w9 cw9
  go_wp2_with fail
  refine H1.mono ?_
  rintro e w10 ⟨rfl, hb10⟩
  have cw10 := cw9.trans (hb10.mono cw9.size)
  clear H1 hb10 d0 d1 d2 d3
  have H2 : Calls Tryz.prog 26 #[.agg #[.int .i64 u.kind, .int .u64 (u.a : Int), .int .u64 (u.b : Int), .slice u.addr u.parts.length u.cap], .int .u64 8, .int .u64 5] w10 fun e w' => e = .returned (.bool false) ∧ Below w10.heap.size w10 w' := HO.out 8 5 false w10 cw10 (by omega) (by omega) (by rfl)
  obtain ⟨d0, d1, d2, d3⟩ := HC.out w10 cw10
  go_wp2_with fail
  refine H2.mono ?_
  rintro e w11 ⟨rfl, hb11⟩
  have cw11 := cw10.trans (hb11.mono cw10.size)
  clear H2 hb11 d0 d1 d2 d3
  have D0 := DP.out w11 cw11
  obtain ⟨d0, d1, d2, d3⟩ := HC.out w11 cw11
  go_wp2_with fail
  refine D0.mono ?_
  rintro e w12 ⟨rfl, hb12⟩
  have cw12 := cw11.trans (hb12.mono cw11.size)
  clear D0 hb12 d0 d1 d2 d3
  have N0 := ND.out w12 cw12
  obtain ⟨d0, d1, d2, d3⟩ := HC.out w12 cw12
  go_wp2_with fail
  refine N0.mono ?_
  rintro e w13 ⟨rfl, hb13⟩
  have cw13 := cw12.trans (hb13.mono cw12.size)
  clear N0 hb13 d0 d1 d2 d3
  have HF := bw2.trans (cw13.mono bw2.size)
  go_wp2_with fail
  go_ret
  exact ⟨rfl, HF⟩

end Go.Proofs.YtpbmgbeiieapiaaGreatDoor
