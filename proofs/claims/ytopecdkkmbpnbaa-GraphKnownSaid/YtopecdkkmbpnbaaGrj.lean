/-
  A region that draws its order and ends with a tail in one forced order (a store, an append): what is ahead of the tail may call, and make memory. No program is named here.
-/
import Derived.Test.YtopecdkkmbpnbaaGri
namespace Go.Proofs.Ytopecdkkmbpnbaa
open Go Go.RowKit
set_option linter.unusedVariables false

section
variable {P : Program} {ops : Array Oper} {Q : Exit → Act → World → Prop} {Pr : Nat → Value → World → Prop} {a0 : Act} {w0 : World}

theorem act_puts {a : Act} : ∀ (l : List (Nat × Value)) (b : Act), a.tmps.size = b.tmps.size → a.defers = b.defers → (∀ s v, (s, v) ∈ l → s < b.tmps.size ∧ a.tmps.getD s undef = v) → (∀ s, s ∉ l.map (·.1) → a.tmps.getD s undef = b.tmps.getD s undef) →
    a = l.foldl (fun c x => c.put (some x.1) x.2) b
  | [], b, h1, h2, _, h4 => by
    obtain ⟨t, d⟩ := a
    obtain ⟨t', d'⟩ := b
    simp only at h1 h2 h4
    subst h2
    have : t = t' := by
      apply Array.ext h1
      intro i hi hi'
      have := h4 i (by simp)
      rw [Array.getD_eq_getD_getElem?, Array.getD_eq_getD_getElem?, Array.getElem?_eq_getElem hi, Array.getElem?_eq_getElem hi'] at this
      simpa using this
    rw [this]; rfl
  | x :: l, b, h1, h2, h3, h4 => by
    rw [List.foldl_cons]
    refine act_puts l (b.put (some x.1) x.2) (by rw [put_size]; exact h1) (by rw [put_defers']; exact h2) (fun s v hm => by rw [put_size]; exact h3 s v (by simp [hm])) fun s hs => ?_
    by_cases e : s = x.1
    · subst e
      obtain ⟨k1, k2⟩ := h3 x.1 x.2 (by simp)
      rw [put_getD_eq k1, k2]
    · rw [put_getD_ne (fun e' => e (by injection e' with e'; exact e'.symm))]
      exact h4 s (by simp at hs ⊢; exact ⟨e, hs⟩)

/-- Does operation i wait for operation k, by way of at most so many others? -/
def reachB (ops : Array Oper) : Nat → Nat → Nat → Bool
  | 0, _, _ => false
  | f + 1, i, k => match ops[i]? with
    | none => false
    | some o => o.after.any fun e => Region.binds .any e && (decide (e.on = k) || reachB ops f e.on k)
theorem reach_listed {listed : Array Bool} (hC : ∀ j o, ops[j]? = some o → listed.getD j false = true → ∀ e ∈ o.after, Region.binds .any e = true → listed.getD e.on false = true) :
    ∀ (f i k : Nat) (o : Oper), ops[i]? = some o → (∀ e ∈ o.after, Region.binds .any e = true → listed.getD e.on false = true) → reachB ops f i k = true → listed.getD k false = true := by
  intro f
  induction f with
  | zero => intro i k o ho hd h; cases h
  | succ f ih =>
    intro i k o ho hd h
    unfold reachB at h
    rw [ho] at h
    simp only at h
    rw [← Array.any_toList, List.any_eq_true] at h
    obtain ⟨e, he, h4⟩ := h
    have he := Array.mem_toList_iff.1 he
    rw [Bool.and_eq_true, Bool.or_eq_true, decide_eq_true_eq] at h4
    have hl := hd e he h4.1
    rcases h4.2 with h5 | h5
    · rw [← h5]; exact hl
    · cases hoe : ops[e.on]? with
      | none =>
        exfalso
        cases f with
        | zero => cases h5
        | succ f => unfold reachB at h5; rw [hoe] at h5; cases h5
      | some o' => exact ih e.on k o' hoe (hC e.on o' hoe hl) h5

theorem wpAny_tail (m : Nat) (hback : ∀ (i : Nat) (o : Oper), ops[i]? = some o → ∀ e ∈ o.after, e.on < i)
    (htail : ∀ (i : Nat) (o : Oper), ops[i]? = some o → m ≤ i → ∀ k, k < i → reachB ops 9 i k = true) :
    ∀ (l : List Oper) (k fuel : Nat) (listed : Array Bool) (a : Act) (w : World), (∀ j, l[j]? = ops[k + j]?) → m ≤ k → listed.size = ops.size → (∀ i, i < k → i < ops.size → listed.getD i false = true) → (∀ i, k ≤ i → i < ops.size → listed.getD i true = false) →
      l.length ≤ fuel → wpList P ops Q l a w → wpAny P .any ops Q fuel listed a w := by
  intro l
  induction l with
  | nil =>
    intro k fuel listed a w hl hk hs h1 h2 hf h
    have hn : ops.size ≤ k := by
      have := hl 0
      rw [List.getElem?_nil, Nat.add_zero] at this
      exact Array.getElem?_eq_none_iff.1 this.symm
    have hr : Region.ready .any ops listed = [] := by
      apply List.eq_nil_iff_forall_not_mem.2
      intro j hj
      rw [mem_ready] at hj
      obtain ⟨hj1, o, ho, _⟩ := hj
      have hlt := (Array.getElem?_eq_some_iff.1 ho).1
      have h3 := h1 j (by omega) hlt
      have hi' : j < listed.size := by omega
      rw [Array.getD_eq_getD_getElem?, Array.getElem?_eq_getElem hi'] at hj1 h3
      simp at hj1 h3
      rw [hj1] at h3; cases h3
    cases fuel with
    | zero => exact ⟨hr, h⟩
    | succ f => exact ⟨fun _ => h, fun i hi => by rw [hr] at hi; cases hi⟩
  | cons o l ih =>
    intro k fuel listed a w hl hk hs h1 h2 hf h
    have h0 : ops[k]? = some o := by simpa using (hl 0).symm
    have hkn := (Array.getElem?_eq_some_iff.1 h0).1
    obtain ⟨f, rfl⟩ : ∃ f, fuel = f + 1 := ⟨fuel - 1, by simp at hf; omega⟩
    refine ⟨fun hr => ?_, fun i hi => ?_⟩
    · exfalso
      have hm : k ∈ Region.ready .any ops listed := by
        rw [mem_ready]
        exact ⟨h2 k (Nat.le_refl _) hkn, o, h0, fun e he _ => h1 e.on (hback k o h0 e he) (by have := hback k o h0 e he; omega)⟩
      rw [hr] at hm
      cases hm
    · rw [mem_ready] at hi
      obtain ⟨hi1, o', ho', haf⟩ := hi
      have hin := (Array.getElem?_eq_some_iff.1 ho').1
      have hik : i = k := by
        rcases Nat.lt_trichotomy i k with hlt | rfl | hgt
        · exfalso
          have h3 := h1 i hlt hin
          have hi' : i < listed.size := by omega
          rw [Array.getD_eq_getD_getElem?, Array.getElem?_eq_getElem hi'] at hi1 h3
          simp at hi1 h3
          rw [hi1] at h3; cases h3
        · rfl
        · exfalso
          have hC : ∀ j o, ops[j]? = some o → listed.getD j false = true → ∀ e ∈ o.after, Region.binds .any e = true → listed.getD e.on false = true := fun j oj hj hjl e he _ => by
            have hjn := (Array.getElem?_eq_some_iff.1 hj).1
            have hjk : j < k := by
              rcases Nat.lt_or_ge j k with h | h
              · exact h
              · exfalso
                have h4 := h2 j h hjn
                have hi' : j < listed.size := by omega
                rw [Array.getD_eq_getD_getElem?, Array.getElem?_eq_getElem hi'] at hjl h4
                simp at hjl h4
                rw [hjl] at h4; cases h4
            have := hback j oj hj e he
            exact h1 e.on (by omega) (by omega)
          have h3 := reach_listed hC 9 i k o' ho' haf (htail i o' ho' (by omega) k hgt)
          have h4 := h2 k (Nat.le_refl _) hkn
          have hi' : k < listed.size := by omega
          rw [Array.getD_eq_getD_getElem?, Array.getElem?_eq_getElem hi'] at h3 h4
          simp at h3 h4
          rw [h3] at h4; cases h4
      subst hik
      have hw : wpOp P ops Q i (wpList P ops Q l) a w := by unfold wpOp; simp only [h0]; exact h
      refine wpOp_mono (fun a' w' h' => ih (i + 1) f _ a' w' (fun j => by have := hl (j + 1); simpa [Nat.add_assoc, Nat.add_comm 1 j] using this) (by omega) (by simpa using hs) (fun j hj hjn => ?_) (fun j hj hjn => ?_) (by simp at hf; omega) h') hw
      · rw [Array.getD_eq_getD_getElem?, Array.getElem?_setIfInBounds]
        by_cases hji : i = j
        · subst hji; simp [show i < listed.size by omega]
        · rw [if_neg hji]
          have := h1 j (by omega) hjn
          rwa [Array.getD_eq_getD_getElem?] at this
      · rw [Array.getD_eq_getD_getElem?, Array.getElem?_setIfInBounds, if_neg (by omega)]
        have := h2 j (by omega) hjn
        rwa [Array.getD_eq_getD_getElem?] at this

theorem wpAny_midT (m : Nat) (hmn : m ≤ ops.size) (hnd : (dsts ops).Nodup) (hlt : ∀ d ∈ dsts ops, d < a0.tmps.size) (hback : ∀ (i : Nat) (o : Oper), ops[i]? = some o → ∀ e ∈ o.after, e.on < i)
    (htail : ∀ (i : Nat) (o : Oper), ops[i]? = some o → m ≤ i → ∀ k, k < i → reachB ops 9 i k = true)
    (hst : ∀ i v w w', Below w0.heap.size w0 w → Below w.heap.size w w' → Pr i v w → Pr i v w')
    (hop : ∀ i o a w, i < m → ops[i]? = some o → Mid ops Pr a0 w0 a w → (∀ e ∈ o.after, Region.binds .any e = true → Done ops Pr e.on a w) →
      Region.wanted o (yielded ops a.tmps) = true ∧ o.wp P a w (fun a' w' => ∃ v, a' = a.put o.dst v ∧ Pr i v w' ∧ Below w.heap.size w w') Q)
    (hend : ∀ a w, Mid ops Pr a0 w0 a w → (∀ s, (∃ (i : Nat) (o : Oper), m ≤ i ∧ ops[i]? = some o ∧ o.dst = some s) → a.tmps.getD s undef = a0.tmps.getD s undef) → (∀ i, i < m → Done ops Pr i a w) → wpList P ops Q (ops.toList.drop m) a w) :
    ∀ (fuel : Nat) (listed : Array Bool) (a : Act) (w : World), listed.size = ops.size → listed.toList.count false ≤ fuel → (∀ i, m ≤ i → i < ops.size → listed.getD i true = false) → (∀ j o, ops[j]? = some o → listed.getD j false = true → ∀ e ∈ o.after, Region.binds .any e = true → listed.getD e.on false = true) → Mid ops Pr a0 w0 a w → (∀ s, (∃ (i : Nat) (o : Oper), m ≤ i ∧ ops[i]? = some o ∧ o.dst = some s) → a.tmps.getD s undef = a0.tmps.getD s undef) →
      (∀ i, listed.getD i false = true → Done ops Pr i a w) → wpAny P .any ops Q fuel listed a w := by
  intro fuel
  induction fuel with
  | zero =>
    intro listed a w hs hc hT hC hM hU hD
    have hc0 : listed.toList.count false = 0 := by omega
    have hall : ∀ i, i < ops.size → listed.getD i false = true := by
      intro i hi
      cases h : listed.getD i false with
      | true => rfl
      | false =>
        exfalso
        have hi' : i < listed.size := by omega
        rw [Array.getD_eq_getD_getElem?, Array.getElem?_eq_getElem hi'] at h
        have : false ∈ listed.toList := by
          rw [← h]; simp
        have := List.count_pos_iff.2 this
        omega
    have hmn2 : m = ops.size := by
      rcases Nat.lt_or_ge m ops.size with h | h
      · exfalso
        have h1 := hT m (Nat.le_refl _) h
        have h2 := hall m h
        have hi' : m < listed.size := by omega
        rw [Array.getD_eq_getD_getElem?, Array.getElem?_eq_getElem hi'] at h1 h2
        simp at h1 h2
        rw [h1] at h2; cases h2
      · omega
    refine wpAny_tail m hback htail (ops.toList.drop m) m 0 listed a w (fun j => by rw [List.getElem?_drop]; simp) (Nat.le_refl _) hs (fun i hi hin => hall i hin) hT (by simp; omega) (hend a w hM hU fun i hi => hD i (hall i (by omega)))
  | succ fuel ih =>
    intro listed a w hs hc hT hC hM hU hD
    by_cases hall : ∀ k, k < m → listed.getD k false = true
    · refine wpAny_tail m hback htail (ops.toList.drop m) m (fuel + 1) listed a w (fun j => by rw [List.getElem?_drop]; simp) (Nat.le_refl _) hs (fun i hi hin => hall i hi) hT ?_ (hend a w hM hU fun i hi => hD i (hall i hi))
      have h1 : (listed.toList.drop m).count false ≤ listed.toList.count false := (List.drop_sublist m _).count_le _
      have h2 : (listed.toList.drop m).count false = (listed.toList.drop m).length := by
        refine List.count_eq_length.2 fun b hb => ?_
        obtain ⟨j, hj⟩ := List.mem_iff_getElem?.1 hb
        rw [List.getElem?_drop] at hj
        have hj2 := (List.getElem?_eq_some_iff.1 hj).1
        have h3 := hT (m + j) (by omega) (by simp at hj2; omega)
        rw [Array.getD_eq_getD_getElem?] at h3
        have h4 : listed[m + j]? = some b := by simpa using hj
        rw [h4] at h3
        exact h3.symm
      simp only [List.length_drop, Array.length_toList] at h2 ⊢
      omega
    · refine ⟨fun hr => absurd (fun k hk => all_listed hback hs hr k (by omega)) hall, fun i hi => ?_⟩
      rw [mem_ready] at hi
      obtain ⟨h1, o, ho, haf⟩ := hi
      have hlt' := (Array.getElem?_eq_some_iff.1 ho).1
      have hi' : i < listed.size := by omega
      have him : i < m := by
        rcases Nat.lt_or_ge i m with h | h
        · exact h
        · exfalso
          refine hall fun k hk => ?_
          exact reach_listed hC 9 i k o ho haf (htail i o ho h k (by omega))
      obtain ⟨hw, hwp⟩ := hop i o a w him ho hM fun e he hb => hD e.on (haf e he hb)
      unfold wpOp
      rw [ho]
      simp only [hw, if_true]
      refine .inl (Oper.wp_mono ?_ hwp)
      rintro a' w' ⟨v, rfl, hv, hbl⟩
      have hbl0 : Below w0.heap.size w0 w' := hM.below.trans (hbl.mono hM.below.size)
      refine ih _ _ _ (by simpa using hs) ?_ (fun j hj hjn => ?_) (fun j oj hoj hjl e he hb => ?_) ⟨?_, ?_, hbl0, ?_⟩ ?_ ?_
      · have hf : listed.toList[i]'(by simpa using hi') = false := by
          rw [Array.getD_eq_getD_getElem?, Array.getElem?_eq_getElem hi'] at h1
          simpa using h1
        have : (listed.setIfInBounds i true).toList = listed.toList.set i true := by simp
        rw [this, List.count_set (by simpa using hi'), hf]
        have hpos : 0 < listed.toList.count false := List.count_pos_iff.2 (by rw [← hf]; exact List.getElem_mem _)
        have e1 : ((false == false) = true) := rfl
        have e2 : ¬ ((true == false) = true) := by decide
        rw [if_pos e1, if_neg e2]
        omega
      · rw [Array.getD_eq_getD_getElem?, Array.getElem?_setIfInBounds, if_neg (by omega)]
        have := hT j hj hjn
        rwa [Array.getD_eq_getD_getElem?] at this
      · have hset : ∀ k, (listed.setIfInBounds i true).getD k false = if k = i then true else listed.getD k false := by
          intro k
          rw [Array.getD_eq_getD_getElem?, Array.getElem?_setIfInBounds, Array.getD_eq_getD_getElem?]
          by_cases hk : k = i
          · subst hk; simp [hi']
          · have : ¬ i = k := fun e => hk e.symm
            simp [hk, this]
        rw [hset] at hjl ⊢
        by_cases hei : e.on = i
        · rw [if_pos hei]
        · rw [if_neg hei]
          by_cases hji : j = i
          · subst hji
            obtain rfl : oj = o := Option.some.inj (hoj.symm.trans ho)
            exact haf e he hb
          · rw [if_neg hji] at hjl
            exact hC j oj hoj hjl e he hb
      · rw [put_size]; exact hM.tmps
      · rw [put_defers']; exact hM.defers
      · intro s hsd
        rw [put_getD_ne (fun e => hsd (mem_dsts ho e))]
        exact hM.other s hsd
      · rintro s ⟨j, o', hj, ho', hd⟩
        rw [put_getD_ne (fun e => by have := dst_inj hnd ho ho' e hd; omega)]
        exact hU s ⟨j, o', hj, ho', hd⟩
      · intro j hj
        by_cases hji : j = i
        · subst hji
          intro o' d ho' hd
          obtain rfl : o' = o := Option.some.inj (ho'.symm.trans ho)
          rw [hd, put_getD_eq (by rw [hM.tmps]; exact hlt d (mem_dsts ho hd))]
          exact hv
        · have hj2 : listed.getD j false = true := by
            rw [Array.getD_eq_getD_getElem?, Array.getElem?_setIfInBounds] at hj
            have : ¬ i = j := fun e => hji e.symm
            simp only [this, if_false] at hj
            rw [Array.getD_eq_getD_getElem?]
            exact hj
          intro o' d ho' hd
          rw [put_getD_ne (fun e => hji (dst_inj hnd ho' ho hd e))]
          exact hst j _ w w' hM.below hbl (hD j hj2 o' d ho' hd)

/-- The tail's operations: each waits for all that are ahead of it. -/
def tailOk (ops : Array Oper) (m : Nat) : Bool :=
  decide (m ≤ ops.size) && (List.range ops.size).all fun i => decide (i < m) || (List.range i).all fun k => reachB ops 9 i k
/-- A REGION THAT DRAWS ITS ORDER, WITH A TAIL: ahead of the tail by what holds of each operation's value, whatever the order; the tail walked in its order. -/
theorem wp_region_midT {id N : Nat} (m : Nat) (Pr : Nat → Value → World → Prop) (hm : P.follows .mixedOrders = true) (hok : regionOk ops N = true) (htl : tailOk ops m = true) (hN : a0.tmps.size = N)
    (hst : ∀ i v w w', Below w0.heap.size w0 w → Below w.heap.size w w' → Pr i v w → Pr i v w')
    (hop : ∀ i o a w, i < m → ops[i]? = some o → Mid ops Pr a0 w0 a w → (∀ j, (o.after.any fun e => e.on == j && Region.binds .any e) = true → Done ops Pr j a w) →
      Region.wanted o (yielded ops a.tmps) = true ∧ o.wp P a w (fun a' w' => ∃ v, a' = a.put o.dst v ∧ Pr i v w' ∧ Below w.heap.size w w') Q)
    (hend : ∀ a w, Mid ops Pr a0 w0 a w → (∀ s, (∃ (i : Nat) (o : Oper), m ≤ i ∧ ops[i]? = some o ∧ o.dst = some s) → a.tmps.getD s undef = a0.tmps.getD s undef) → (∀ i, i < m → Done ops Pr i a w) → wpList P ops Q (ops.toList.drop m) a w) :
    (Code.region id ops true).wp P Q a0 w0 := by
  have hok' := hok
  simp only [regionOk, Bool.and_eq_true, decide_eq_true_eq] at hok'
  simp only [tailOk, Bool.and_eq_true, decide_eq_true_eq] at htl
  have htail : ∀ (i : Nat) (o : Oper), ops[i]? = some o → m ≤ i → ∀ k, k < i → reachB ops 9 i k = true := fun i o ho hi k hk => by
    have h1 := List.all_eq_true.1 htl.2 i (by simpa using (Array.getElem?_eq_some_iff.1 ho).1)
    rw [Bool.or_eq_true] at h1
    have h2 := h1.resolve_left (by simp; omega)
    exact List.all_eq_true.1 h2 k (by simpa using hk)
  refine wp_region_any hm (wpAny_midT m htl.1 hok'.1.1 (fun d hd => by rw [hN]; simpa using (List.all_eq_true.1 hok'.1.2) d hd) (regionOk_back hok) htail hst (fun i o a w hi ho hM hD => hop i o a w hi ho hM fun j hj => ?_) hend _ _ _ _ (by simp) ?_ (fun i _ hin => by simp [hin]) (fun j oj hj hjl => ?_) ⟨rfl, rfl, below_drew1i w0, fun _ _ => rfl⟩ (fun _ _ => rfl) ?_)
  · rw [← Array.any_toList, List.any_eq_true] at hj
    obtain ⟨e, he, hj⟩ := hj
    have he := Array.mem_toList_iff.1 he
    simp only [Bool.and_eq_true, beq_iff_eq] at hj
    rw [← hj.1]
    exact hD e he hj.2
  · simp
  · exfalso
    rw [Array.getD_eq_getD_getElem?, Array.getElem?_replicate] at hjl
    split at hjl <;> simp at hjl
  · intro i hi
    exfalso
    rw [Array.getD_eq_getD_getElem?, Array.getElem?_replicate] at hi
    split at hi <;> simp at hi
end

end Go.Proofs.Ytopecdkkmbpnbaa
