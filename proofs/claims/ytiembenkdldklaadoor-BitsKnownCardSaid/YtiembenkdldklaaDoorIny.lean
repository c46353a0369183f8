/-
  A region that draws its order, by what holds while some of its operations are done: shown once for each operation. No program is named here.
-/
import Derived.Test.YtiembenkdldklaaDoorInv
namespace Go.Proofs.YtiembenkdldklaaDoor
open Go Go.RowKit
set_option linter.unusedVariables false

section
variable {P : Program} {ops : Array Oper} {Q : Exit → Act → World → Prop} {a0 : Act} {w0 : World}

/-- One more is done. -/
def more (L : Nat → Bool) (i : Nat) : Nat → Bool := fun k => if k = i then true else L k

theorem wpAny_gen (I : (Nat → Bool) → Act → World → Prop) (hback : ∀ (i : Nat) (o : Oper), ops[i]? = some o → ∀ e ∈ o.after, e.on < i)
    (hop : ∀ i o L a w, ops[i]? = some o → L i = false → I L a w → (∀ e ∈ o.after, Region.binds .any e = true → L e.on = true) →
      Region.wanted o (yielded ops a.tmps) = true ∧ o.wp P a w (fun a' w' => I (more L i) a' w') Q)
    (hend : ∀ L a w, I L a w → (∀ i, i < ops.size → L i = true) → Q .normal a w) :
    ∀ (fuel : Nat) (listed : Array Bool) (a : Act) (w : World), listed.size = ops.size → listed.toList.count false ≤ fuel → I (fun k => listed.getD k false) a w → wpAny P .any ops Q fuel listed a w := by
  intro fuel
  induction fuel with
  | zero =>
    intro listed a w hs hc hI
    have hall : ∀ i, i < ops.size → listed.getD i false = true := by
      intro i hi
      cases h : listed.getD i false with
      | true => rfl
      | false =>
        exfalso
        have hi' : i < listed.size := by omega
        rw [Array.getD_eq_getD_getElem?, Array.getElem?_eq_getElem hi'] at h
        have : false ∈ listed.toList := by
          rw [← h]; simp
        have := List.count_pos_iff.2 this
        omega
    refine ⟨?_, hend _ a w hI hall⟩
    apply List.eq_nil_iff_forall_not_mem.2
    intro j hj
    rw [mem_ready] at hj
    obtain ⟨h1, o, ho, _⟩ := hj
    have hlt := (Array.getElem?_eq_some_iff.1 ho).1
    have h2 := hall j hlt
    have hi' : j < listed.size := by omega
    rw [Array.getD_eq_getD_getElem?, Array.getElem?_eq_getElem hi'] at h1 h2
    simp at h1 h2
    rw [h1] at h2; cases h2
  | succ fuel ih =>
    intro listed a w hs hc hI
    refine ⟨fun hr => hend _ a w hI (all_listed hback hs hr), fun i hi => ?_⟩
    rw [mem_ready] at hi
    obtain ⟨h1, o, ho, haf⟩ := hi
    have hlt' := (Array.getElem?_eq_some_iff.1 ho).1
    have hi' : i < listed.size := by omega
    have h1' : listed.getD i false = false := by
      rw [Array.getD_eq_getD_getElem?, Array.getElem?_eq_getElem hi'] at h1 ⊢
      exact h1
    obtain ⟨hw, hwp⟩ := hop i o (fun k => listed.getD k false) a w ho h1' hI fun e he hb => haf e he hb
    unfold wpOp
    rw [ho]
    simp only [hw, if_true]
    refine .inl (Oper.wp_mono ?_ hwp)
    intro a' w' hI'
    refine ih _ _ _ (by simpa using hs) ?_ ?_
    · have hf : listed.toList[i]'(by simpa using hi') = false := by
        rw [Array.getD_eq_getD_getElem?, Array.getElem?_eq_getElem hi'] at h1
        simpa using h1
      have : (listed.setIfInBounds i true).toList = listed.toList.set i true := by simp
      rw [this, List.count_set (by simpa using hi'), hf]
      have hpos : 0 < listed.toList.count false := List.count_pos_iff.2 (by rw [← hf]; exact List.getElem_mem _)
      have e1 : ((false == false) = true) := rfl
      have e2 : ¬ ((true == false) = true) := by decide
      rw [if_pos e1, if_neg e2]
      omega
    · have e : (fun k => (listed.setIfInBounds i true).getD k false) = more (fun k => listed.getD k false) i := by
        funext k
        unfold more
        rw [Array.getD_eq_getD_getElem?, Array.getElem?_setIfInBounds]
        by_cases hk : k = i
        · subst hk; simp [hi']
        · rw [if_neg (fun e => hk e.symm), if_neg hk]
          simp [Array.getD_eq_getD_getElem?]
      rw [e]
      exact hI'

/-- A REGION THAT DRAWS ITS ORDER, BY WHAT HOLDS WHILE SOME OF ITS OPERATIONS ARE DONE. -/
theorem wp_region_gen {id N : Nat} (I : (Nat → Bool) → Act → World → Prop) (hm : P.follows .mixedOrders = true) (hok : regionOk ops N = true)
    (hst : I (fun _ => false) a0 { w0 with drawn := w0.drawn + 1 })
    (hop : ∀ i o L a w, ops[i]? = some o → L i = false → I L a w → (∀ j, (o.after.any fun e => e.on == j && Region.binds .any e) = true → L j = true) →
      Region.wanted o (yielded ops a.tmps) = true ∧ o.wp P a w (fun a' w' => I (more L i) a' w') Q)
    (hend : ∀ L a w, I L a w → (∀ i, i < ops.size → L i = true) → Q .normal a w) :
    (Code.region id ops true).wp P Q a0 w0 := by
  refine wp_region_any hm (wpAny_gen I (regionOk_back hok) (fun i o L a w ho h1 hI hD => hop i o L a w ho h1 hI fun j hj => ?_) hend _ _ _ _ (by simp) ?_ ?_)
  · rw [← Array.any_toList, List.any_eq_true] at hj
    obtain ⟨e, he, hj⟩ := hj
    have he := Array.mem_toList_iff.1 he
    simp only [Bool.and_eq_true, beq_iff_eq] at hj
    rw [← hj.1]
    exact hD e he hj.2
  · simp
  · have e : (fun k => (Array.replicate ops.size false).getD k false) = fun _ => false := by
      funext k
      rw [Array.getD_eq_getD_getElem?, Array.getElem?_replicate]
      split <;> rfl
    rw [e]
    exact hst
/-- The same, told of the frame that the region begins with. -/
theorem wp_region_gen2 {id N : Nat} (I : Act → (Nat → Bool) → Act → World → Prop) (hm : P.follows .mixedOrders = true) (hok : regionOk ops N = true)
    (hst : I a0 (fun _ => false) a0 { w0 with drawn := w0.drawn + 1 })
    (hop : ∀ i o L a w, ops[i]? = some o → L i = false → I a0 L a w → (∀ j, (o.after.any fun e => e.on == j && Region.binds .any e) = true → L j = true) →
      Region.wanted o (yielded ops a.tmps) = true ∧ o.wp P a w (fun a' w' => I a0 (more L i) a' w') Q)
    (hend : ∀ L a w, I a0 L a w → (∀ i, i < ops.size → L i = true) → Q .normal a w) :
    (Code.region id ops true).wp P Q a0 w0 := wp_region_gen (I a0) hm hok hst hop hend
theorem wpAny_gen3 (I : (Nat → Bool) → Act → World → Prop) (hback : ∀ (i : Nat) (o : Oper), ops[i]? = some o → ∀ e ∈ o.after, e.on < i)
    (hop : ∀ i o L a w, ops[i]? = some o → L i = false → I L a w → (∀ e ∈ o.after, Region.binds .any e = true → L e.on = true) →
      (Region.wanted o (yielded ops a.tmps) = true ∧ o.wp P a w (fun a' w' => I (more L i) a' w') Q) ∨ (Region.wanted o (yielded ops a.tmps) = false ∧ I (more L i) (a.put o.dst undef) w))
    (hend : ∀ L a w, I L a w → (∀ i, i < ops.size → L i = true) → Q .normal a w) :
    ∀ (fuel : Nat) (listed : Array Bool) (a : Act) (w : World), listed.size = ops.size → listed.toList.count false ≤ fuel → I (fun k => listed.getD k false) a w → wpAny P .any ops Q fuel listed a w := by
  intro fuel
  induction fuel with
  | zero =>
    intro listed a w hs hc hI
    have hall : ∀ i, i < ops.size → listed.getD i false = true := by
      intro i hi
      cases h : listed.getD i false with
      | true => rfl
      | false =>
        exfalso
        have hi' : i < listed.size := by omega
        rw [Array.getD_eq_getD_getElem?, Array.getElem?_eq_getElem hi'] at h
        have : false ∈ listed.toList := by
          rw [← h]; simp
        have := List.count_pos_iff.2 this
        omega
    refine ⟨?_, hend _ a w hI hall⟩
    apply List.eq_nil_iff_forall_not_mem.2
    intro j hj
    rw [mem_ready] at hj
    obtain ⟨h1, o, ho, _⟩ := hj
    have hlt := (Array.getElem?_eq_some_iff.1 ho).1
    have h2 := hall j hlt
    have hi' : j < listed.size := by omega
    rw [Array.getD_eq_getD_getElem?, Array.getElem?_eq_getElem hi'] at h1 h2
    simp at h1 h2
    rw [h1] at h2; cases h2
  | succ fuel ih =>
    intro listed a w hs hc hI
    refine ⟨fun hr => hend _ a w hI (all_listed hback hs hr), fun i hi => ?_⟩
    rw [mem_ready] at hi
    obtain ⟨h1, o, ho, haf⟩ := hi
    have hlt' := (Array.getElem?_eq_some_iff.1 ho).1
    have hi' : i < listed.size := by omega
    have h1' : listed.getD i false = false := by
      rw [Array.getD_eq_getD_getElem?, Array.getElem?_eq_getElem hi'] at h1 ⊢
      exact h1
    have hnext : ∀ a' w', I (more (fun k => listed.getD k false) i) a' w' → wpAny P .any ops Q fuel (listed.setIfInBounds i true) a' w' := by
      intro a' w' hI'
      refine ih _ _ _ (by simpa using hs) ?_ ?_
      · have hf : listed.toList[i]'(by simpa using hi') = false := by
          rw [Array.getD_eq_getD_getElem?, Array.getElem?_eq_getElem hi'] at h1
          simpa using h1
        have : (listed.setIfInBounds i true).toList = listed.toList.set i true := by simp
        rw [this, List.count_set (by simpa using hi'), hf]
        have hpos : 0 < listed.toList.count false := List.count_pos_iff.2 (by rw [← hf]; exact List.getElem_mem _)
        have e1 : ((false == false) = true) := rfl
        have e2 : ¬ ((true == false) = true) := by decide
        rw [if_pos e1, if_neg e2]
        omega
      · have e : (fun k => (listed.setIfInBounds i true).getD k false) = more (fun k => listed.getD k false) i := by
          funext k
          unfold more
          rw [Array.getD_eq_getD_getElem?, Array.getElem?_setIfInBounds]
          by_cases hk : k = i
          · subst hk; simp [hi']
          · rw [if_neg (fun e => hk e.symm), if_neg hk]
            simp [Array.getD_eq_getD_getElem?]
        rw [e]
        exact hI'
    unfold wpOp
    rw [ho]
    rcases hop i o (fun k => listed.getD k false) a w ho h1' hI fun e he hb => haf e he hb with ⟨hw, hwp⟩ | ⟨hw, hI'⟩
    · simp only [hw, if_true]
      exact .inl (Oper.wp_mono hnext hwp)
    · simp only [hw]
      exact hnext _ _ hI'

/-- What an operation's slot holds, when it is done. -/
def Fixed (ops : Array Oper) (V : Nat → Value) (k : Nat) (a : Act) : Prop := ∀ o d, ops[k]? = some o → o.dst = some d → a.tmps.getD d undef = V k

/-- A REGION THAT DRAWS ITS ORDER, WHOSE OPERATIONS EACH HAVE ONE VALUE, WHATEVER THE ORDER; one that is not wanted has none. -/
theorem wp_region_fix {id N : Nat} (V : Nat → Value) (hm : P.follows .mixedOrders = true) (hok : regionOk ops N = true) (hN : a0.tmps.size = N)
    (hop : ∀ i o a w, ops[i]? = some o → Below w0.heap.size w0 w → (∀ s, s ∉ dsts ops → a.tmps.getD s undef = a0.tmps.getD s undef) → (∀ k, (o.after.any fun e => e.on == k && Region.binds .any e) = true → Fixed ops V k a) →
      (Region.wanted o (yielded ops a.tmps) = true ∧ o.wp P a w (fun a' w' => a' = a.put o.dst (V i) ∧ Below w.heap.size w w') Q) ∨ (Region.wanted o (yielded ops a.tmps) = false ∧ V i = undef))
    (hend : ∀ a w, a.tmps.size = a0.tmps.size → a.defers = a0.defers → (∀ s, s ∉ dsts ops → a.tmps.getD s undef = a0.tmps.getD s undef) → Below w0.heap.size w0 w → (∀ k, k < ops.size → Fixed ops V k a) → Q .normal a w) :
    (Code.region id ops true).wp P Q a0 w0 := by
  have hok' := hok
  simp only [regionOk, Bool.and_eq_true, decide_eq_true_eq] at hok'
  have hput : ∀ (i : Nat) (o : Oper) (L : Nat → Bool) (a : Act) (w w' : World), ops[i]? = some o → (a.tmps.size = a0.tmps.size ∧ a.defers = a0.defers ∧ (∀ s, s ∉ dsts ops → a.tmps.getD s undef = a0.tmps.getD s undef) ∧ Below w0.heap.size w0 w ∧ ∀ k, L k = true → Fixed ops V k a) → Below w.heap.size w w' →
      ((a.put o.dst (V i)).tmps.size = a0.tmps.size ∧ (a.put o.dst (V i)).defers = a0.defers ∧ (∀ s, s ∉ dsts ops → (a.put o.dst (V i)).tmps.getD s undef = a0.tmps.getD s undef) ∧ Below w0.heap.size w0 w' ∧ ∀ k, more L i k = true → Fixed ops V k (a.put o.dst (V i))) := by
    intro i o L a w w' ho ⟨h1, h2, h3, h4, h5⟩ hb
    refine ⟨put_size.trans h1, put_defers'.trans h2, fun s hs => (put_getD_ne (fun e => hs (mem_dsts ho e))).trans (h3 s hs), h4.trans (hb.mono h4.size), fun k hk o' d ho' hd => ?_⟩
    by_cases hki : k = i
    · subst hki
      obtain rfl : o' = o := Option.some.inj (ho'.symm.trans ho)
      rw [hd, put_getD_eq (by rw [h1, hN]; simpa using (List.all_eq_true.1 hok'.1.2) d (mem_dsts ho hd))]
    · have hk' : L k = true := by unfold more at hk; rwa [if_neg hki] at hk
      rw [put_getD_ne (fun e => hki (dst_inj hok'.1.1 ho' ho hd e))]
      exact h5 k hk' o' d ho' hd
  refine wp_region_any hm (wpAny_gen3 (fun L a w => a.tmps.size = a0.tmps.size ∧ a.defers = a0.defers ∧ (∀ s, s ∉ dsts ops → a.tmps.getD s undef = a0.tmps.getD s undef) ∧ Below w0.heap.size w0 w ∧ ∀ k, L k = true → Fixed ops V k a) (regionOk_back hok) (fun i o L a w ho h1 hI hD => ?_) (fun L a w hI hall => hend a w hI.1 hI.2.1 hI.2.2.1 hI.2.2.2.1 fun k hk => hI.2.2.2.2 k (hall k hk)) _ _ _ _ (by simp) ?_ ?_)
  · have hD' : ∀ k, (o.after.any fun e => e.on == k && Region.binds .any e) = true → Fixed ops V k a := fun k hj => by
      rw [← Array.any_toList, List.any_eq_true] at hj
      obtain ⟨e, he, hj⟩ := hj
      have he := Array.mem_toList_iff.1 he
      simp only [Bool.and_eq_true, beq_iff_eq] at hj
      rw [← hj.1]
      exact hI.2.2.2.2 _ (hD e he hj.2)
    rcases hop i o a w ho hI.2.2.2.1 hI.2.2.1 hD' with ⟨hw, hwp⟩ | ⟨hw, hv⟩
    · refine .inl ⟨hw, Oper.wp_mono ?_ hwp⟩
      rintro a' w' ⟨rfl, hb⟩
      exact hput i o L a w w' ho hI hb
    · refine .inr ⟨hw, ?_⟩
      have := hput i o L a w w ho hI (Below.refl _ _)
      rwa [hv] at this
  · simp
  · have e : (fun k => (Array.replicate ops.size false).getD k false) = fun _ => false := by
      funext k
      rw [Array.getD_eq_getD_getElem?, Array.getElem?_replicate]
      split <;> rfl
    rw [e]
    exact ⟨rfl, rfl, fun _ _ => rfl, below_drew1 w0, fun k hk => by cases hk⟩
end

theorem yielded_bool {ops : Array Oper} {a : Act} {j : Nat} {o : Oper} {d : Tmp} {b : Bool} (ho : ops[j]? = some o) (hd : o.dst = some d) (h : a.tmps.getD d undef = .bool b) : yielded ops a.tmps j = some b := by
  unfold yielded
  rw [ho, Option.bind_some, hd, Option.bind_some]
  rw [Array.getD_eq_getD_getElem?] at h
  cases ht : a.tmps[d]? with
  | none => rw [ht] at h; cases h
  | some v => rw [ht] at h; simp only [Option.getD_some] at h; subst h; rfl
theorem yielded_undef {ops : Array Oper} {a : Act} {j : Nat} {o : Oper} {d : Tmp} (ho : ops[j]? = some o) (hd : o.dst = some d) (h : a.tmps.getD d undef = undef) : yielded ops a.tmps j = none := by
  unfold yielded
  rw [ho, Option.bind_some, hd, Option.bind_some]
  rw [Array.getD_eq_getD_getElem?] at h
  cases ht : a.tmps[d]? with
  | none => rfl
  | some v => rw [ht] at h; simp only [Option.getD_some] at h; subst h; rfl
theorem wanted_yes {ops : Array Oper} {a : Act} {o o' : Oper} (j : Nat) (d : Tmp) {b : Bool} (hg : o.guard = some (j, b)) (ho : ops[j]? = some o') (hd : o'.dst = some d) (h : a.tmps.getD d undef = .bool b) : Region.wanted o (yielded ops a.tmps) = true := by
  unfold Region.wanted
  rw [hg]
  simp only
  rw [yielded_bool ho hd h]
  simp
theorem wanted_no {ops : Array Oper} {a : Act} {o o' : Oper} (j : Nat) (d : Tmp) {b b' : Bool} (hg : o.guard = some (j, b)) (ho : ops[j]? = some o') (hd : o'.dst = some d) (h : a.tmps.getD d undef = .bool b') (hne : b' ≠ b) : Region.wanted o (yielded ops a.tmps) = false := by
  unfold Region.wanted
  rw [hg]
  simp only
  rw [yielded_bool ho hd h]
  simpa using hne
theorem wanted_none {ops : Array Oper} {a : Act} {o o' : Oper} (j : Nat) (d : Tmp) {b : Bool} (hg : o.guard = some (j, b)) (ho : ops[j]? = some o') (hd : o'.dst = some d) (h : a.tmps.getD d undef = undef) : Region.wanted o (yielded ops a.tmps) = false := by
  unfold Region.wanted
  rw [hg]
  simp only
  rw [yielded_undef ho hd h]
  rfl

theorem act_puts {a : Act} : ∀ (l : List (Nat × Value)) (b : Act), a.tmps.size = b.tmps.size → a.defers = b.defers → (∀ s v, (s, v) ∈ l → s < b.tmps.size ∧ a.tmps.getD s undef = v) → (∀ s, s ∉ l.map (·.1) → a.tmps.getD s undef = b.tmps.getD s undef) →
    a = l.foldl (fun c x => c.put (some x.1) x.2) b
  | [], b, h1, h2, _, h4 => by
    obtain ⟨t, d⟩ := a
    obtain ⟨t', d'⟩ := b
    simp only at h1 h2 h4
    subst h2
    have : t = t' := by
      apply Array.ext h1
      intro i hi hi'
      have := h4 i (by simp)
      rw [Array.getD_eq_getD_getElem?, Array.getD_eq_getD_getElem?, Array.getElem?_eq_getElem hi, Array.getElem?_eq_getElem hi'] at this
      simpa using this
    rw [this]; rfl
  | x :: l, b, h1, h2, h3, h4 => by
    rw [List.foldl_cons]
    refine act_puts l (b.put (some x.1) x.2) (by rw [put_size]; exact h1) (by rw [put_defers']; exact h2) (fun s v hm => by rw [put_size]; exact h3 s v (by simp [hm])) fun s hs => ?_
    by_cases e : s = x.1
    · subst e
      obtain ⟨k1, k2⟩ := h3 x.1 x.2 (by simp)
      rw [put_getD_eq k1, k2]
    · rw [put_getD_ne (fun e' => e (by injection e' with e'; exact e'.symm))]
      exact h4 s (by simp at hs ⊢; exact ⟨e, hs⟩)

end Go.Proofs.YtiembenkdldklaaDoor
