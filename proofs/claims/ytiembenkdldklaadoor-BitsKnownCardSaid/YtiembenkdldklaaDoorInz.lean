/-
  A region that draws its order, whose operations each have one value whatever the order, with what holds of the memory while some of them are done. No program is named here.
-/
import Derived.Test.YtiembenkdldklaaDoorIny
namespace Go.Proofs.YtiembenkdldklaaDoor
open Go Go.RowKit
set_option linter.unusedVariables false

section
variable {P : Program} {ops : Array Oper} {Q : Exit → Act → World → Prop} {a0 : Act} {w0 : World}

def regionOk2 (ops : Array Oper) (N : Nat) : Bool :=
  decide (dsts ops).Nodup && (dsts ops).all (fun d => decide (d < N)) && (List.range ops.size).all fun i => ((ops[i]?).map fun o => o.after.all fun e => !Region.binds .any e || decide (e.on < i)).getD true
theorem regionOk2_back {N : Nat} (h : regionOk2 ops N = true) (i : Nat) (o : Oper) (ho : ops[i]? = some o) : ∀ e ∈ o.after, Region.binds .any e = true → e.on < i := by
  simp only [regionOk2, Bool.and_eq_true] at h
  have hlt := (Array.getElem?_eq_some_iff.1 ho).1
  have := (List.all_eq_true.1 h.2) i (by rw [List.mem_range]; exact hlt)
  rw [ho] at this
  intro e he hb
  simp only [Option.map_some, Option.getD_some] at this
  have h2 := (Array.all_eq_true_iff_forall_mem.1 this) e he
  rw [hb] at h2
  simpa using h2
theorem all_listed2 (hback : ∀ (i : Nat) (o : Oper), ops[i]? = some o → ∀ e ∈ o.after, Region.binds .any e = true → e.on < i) {listed : Array Bool} (hs : listed.size = ops.size) (hr : Region.ready .any ops listed = []) : ∀ i, i < ops.size → listed.getD i false = true := by
  intro i
  induction i using Nat.strongRecOn with
  | ind i ih =>
    intro hi
    cases h : listed.getD i false with
    | true => rfl
    | false =>
      exfalso
      have hm : i ∈ Region.ready .any ops listed := by
        rw [mem_ready]
        refine ⟨?_, ops[i], Array.getElem?_eq_getElem hi, fun e he hb => ih e.on (hback i _ (Array.getElem?_eq_getElem hi) e he hb) ?_⟩
        · have hi' : i < listed.size := by omega
          rw [Array.getD_eq_getD_getElem?, Array.getElem?_eq_getElem hi'] at h ⊢
          exact h
        · have := hback i _ (Array.getElem?_eq_getElem hi) e he hb
          omega
      rw [hr] at hm
      cases hm

theorem wpAny_gen4 (I : (Nat → Bool) → Act → World → Prop) (hback : ∀ (i : Nat) (o : Oper), ops[i]? = some o → ∀ e ∈ o.after, Region.binds .any e = true → e.on < i)
    (hop : ∀ i o L a w, ops[i]? = some o → L i = false → I L a w → (∀ e ∈ o.after, Region.binds .any e = true → L e.on = true) →
      (Region.wanted o (yielded ops a.tmps) = true ∧ o.wp P a w (fun a' w' => I (more L i) a' w') Q) ∨ (Region.wanted o (yielded ops a.tmps) = false ∧ I (more L i) (a.put o.dst undef) w))
    (hend : ∀ L a w, I L a w → (∀ i, i < ops.size → L i = true) → Q .normal a w) :
    ∀ (fuel : Nat) (listed : Array Bool) (a : Act) (w : World), listed.size = ops.size → listed.toList.count false ≤ fuel → I (fun k => listed.getD k false) a w → wpAny P .any ops Q fuel listed a w := by
  intro fuel
  induction fuel with
  | zero =>
    intro listed a w hs hc hI
    have hall : ∀ i, i < ops.size → listed.getD i false = true := by
      intro i hi
      cases h : listed.getD i false with
      | true => rfl
      | false =>
        exfalso
        have hi' : i < listed.size := by omega
        rw [Array.getD_eq_getD_getElem?, Array.getElem?_eq_getElem hi'] at h
        have : false ∈ listed.toList := by
          rw [← h]; simp
        have := List.count_pos_iff.2 this
        omega
    refine ⟨?_, hend _ a w hI hall⟩
    apply List.eq_nil_iff_forall_not_mem.2
    intro j hj
    rw [mem_ready] at hj
    obtain ⟨h1, o, ho, _⟩ := hj
    have hlt := (Array.getElem?_eq_some_iff.1 ho).1
    have h2 := hall j hlt
    have hi' : j < listed.size := by omega
    rw [Array.getD_eq_getD_getElem?, Array.getElem?_eq_getElem hi'] at h1 h2
    simp at h1 h2
    rw [h1] at h2; cases h2
  | succ fuel ih =>
    intro listed a w hs hc hI
    refine ⟨fun hr => hend _ a w hI (all_listed2 hback hs hr), fun i hi => ?_⟩
    rw [mem_ready] at hi
    obtain ⟨h1, o, ho, haf⟩ := hi
    have hlt' := (Array.getElem?_eq_some_iff.1 ho).1
    have hi' : i < listed.size := by omega
    have h1' : listed.getD i false = false := by
      rw [Array.getD_eq_getD_getElem?, Array.getElem?_eq_getElem hi'] at h1 ⊢
      exact h1
    have hnext : ∀ a' w', I (more (fun k => listed.getD k false) i) a' w' → wpAny P .any ops Q fuel (listed.setIfInBounds i true) a' w' := by
      intro a' w' hI'
      refine ih _ _ _ (by simpa using hs) ?_ ?_
      · have hf : listed.toList[i]'(by simpa using hi') = false := by
          rw [Array.getD_eq_getD_getElem?, Array.getElem?_eq_getElem hi'] at h1
          simpa using h1
        have : (listed.setIfInBounds i true).toList = listed.toList.set i true := by simp
        rw [this, List.count_set (by simpa using hi'), hf]
        have hpos : 0 < listed.toList.count false := List.count_pos_iff.2 (by rw [← hf]; exact List.getElem_mem _)
        have e1 : ((false == false) = true) := rfl
        have e2 : ¬ ((true == false) = true) := by decide
        rw [if_pos e1, if_neg e2]
        omega
      · have e : (fun k => (listed.setIfInBounds i true).getD k false) = more (fun k => listed.getD k false) i := by
          funext k
          unfold more
          rw [Array.getD_eq_getD_getElem?, Array.getElem?_setIfInBounds]
          by_cases hk : k = i
          · subst hk; simp [hi']
          · rw [if_neg (fun e => hk e.symm), if_neg hk]
            simp [Array.getD_eq_getD_getElem?]
        rw [e]
        exact hI'
    unfold wpOp
    rw [ho]
    rcases hop i o (fun k => listed.getD k false) a w ho h1' hI fun e he hb => haf e he hb with ⟨hw, hwp⟩ | ⟨hw, hI'⟩
    · simp only [hw, if_true]
      exact .inl (Oper.wp_mono hnext hwp)
    · simp only [hw]
      exact hnext _ _ hI'

theorem wp_region_fixJ {id N : Nat} (V : Nat → Value) (J : (Nat → Bool) → World → Prop) (hm : P.follows .mixedOrders = true) (hok : regionOk2 ops N = true) (hN : a0.tmps.size = N)
    (hst : J (fun _ => false) { w0 with drawn := w0.drawn + 1 })
    (hop : ∀ i o L a w, ops[i]? = some o → L i = false → J L w → (∀ s, s ∉ dsts ops → a.tmps.getD s undef = a0.tmps.getD s undef) → (∀ k, (o.after.any fun e => e.on == k && Region.binds .any e) = true → Fixed ops V k a) →
      (Region.wanted o (yielded ops a.tmps) = true ∧ o.wp P a w (fun a' w' => a' = a.put o.dst (V i) ∧ J (more L i) w') Q) ∨ (Region.wanted o (yielded ops a.tmps) = false ∧ V i = undef ∧ J (more L i) w))
    (hend : ∀ L a w, (∀ k, k < ops.size → L k = true) → a.tmps.size = a0.tmps.size → a.defers = a0.defers → (∀ s, s ∉ dsts ops → a.tmps.getD s undef = a0.tmps.getD s undef) → J L w → (∀ k, k < ops.size → Fixed ops V k a) → Q .normal a w) :
    (Code.region id ops true).wp P Q a0 w0 := by
  have hok' := hok
  simp only [regionOk2, Bool.and_eq_true, decide_eq_true_eq] at hok'
  have hput : ∀ (i : Nat) (o : Oper) (L : Nat → Bool) (a : Act), ops[i]? = some o → (a.tmps.size = a0.tmps.size ∧ a.defers = a0.defers ∧ (∀ s, s ∉ dsts ops → a.tmps.getD s undef = a0.tmps.getD s undef) ∧ ∀ k, L k = true → Fixed ops V k a) →
      ((a.put o.dst (V i)).tmps.size = a0.tmps.size ∧ (a.put o.dst (V i)).defers = a0.defers ∧ (∀ s, s ∉ dsts ops → (a.put o.dst (V i)).tmps.getD s undef = a0.tmps.getD s undef) ∧ ∀ k, more L i k = true → Fixed ops V k (a.put o.dst (V i))) := by
    intro i o L a ho ⟨h1, h2, h3, h5⟩
    refine ⟨put_size.trans h1, put_defers'.trans h2, fun s hs => (put_getD_ne (fun e => hs (mem_dsts ho e))).trans (h3 s hs), fun k hk o' d ho' hd => ?_⟩
    by_cases hki : k = i
    · subst hki
      obtain rfl : o' = o := Option.some.inj (ho'.symm.trans ho)
      rw [hd, put_getD_eq (by rw [h1, hN]; simpa using (List.all_eq_true.1 hok'.1.2) d (mem_dsts ho hd))]
    · have hk' : L k = true := by unfold more at hk; rwa [if_neg hki] at hk
      rw [put_getD_ne (fun e => hki (dst_inj hok'.1.1 ho' ho hd e))]
      exact h5 k hk' o' d ho' hd
  refine wp_region_any hm (wpAny_gen4 (fun L a w => J L w ∧ a.tmps.size = a0.tmps.size ∧ a.defers = a0.defers ∧ (∀ s, s ∉ dsts ops → a.tmps.getD s undef = a0.tmps.getD s undef) ∧ ∀ k, L k = true → Fixed ops V k a) (regionOk2_back hok) (fun i o L a w ho hL hI hD => ?_) (fun L a w hI hall => hend L a w hall hI.2.1 hI.2.2.1 hI.2.2.2.1 hI.1 fun k hk => hI.2.2.2.2 k (hall k hk)) _ _ _ _ (by simp) ?_ ?_)
  · have hD' : ∀ k, (o.after.any fun e => e.on == k && Region.binds .any e) = true → Fixed ops V k a := fun k hj => by
      rw [← Array.any_toList, List.any_eq_true] at hj
      obtain ⟨e, he, hj⟩ := hj
      have he := Array.mem_toList_iff.1 he
      simp only [Bool.and_eq_true, beq_iff_eq] at hj
      rw [← hj.1]
      exact hI.2.2.2.2 _ (hD e he hj.2)
    rcases hop i o L a w ho hL hI.1 hI.2.2.2.1 hD' with ⟨hw, hwp⟩ | ⟨hw, hv, hj⟩
    · refine .inl ⟨hw, Oper.wp_mono ?_ hwp⟩
      rintro a' w' ⟨rfl, hb⟩
      exact ⟨hb, hput i o L a ho hI.2⟩
    · refine .inr ⟨hw, hj, ?_⟩
      have := hput i o L a ho hI.2
      rwa [hv] at this
  · simp
  · have e : (fun k => (Array.replicate ops.size false).getD k false) = fun _ => false := by
      funext k
      rw [Array.getD_eq_getD_getElem?, Array.getElem?_replicate]
      split <;> rfl
    rw [e]
    exact ⟨hst, rfl, rfl, fun _ _ => rfl, fun k hk => by cases hk⟩
theorem more_ne {L : Nat → Bool} {i j : Nat} (h : j ≠ i) : more L i j = L j := by unfold more; rw [if_neg h]
theorem more_eq {L : Nat → Bool} {i : Nat} : more L i i = true := by unfold more; rw [if_pos rfl]
end

end Go.Proofs.YtiembenkdldklaaDoor
