/-
  A region that draws its order, in a round of a range over a function: the law of Inw, inside that fence. No program is named here.
-/
import Derived.Test.YtiembenkdldklaaDoorInw
import Derived.OrdersIn
import Derived.RangeFuncCalls
namespace Go.Proofs.YtiembenkdldklaaDoor
open Go Go.RowKit
set_option linter.unusedVariables false

section
variable {R : World → World → Prop} {P : Program} {ops : Array Oper} {Q : Exit → Act → World → Prop} {Pr : Nat → Value → World → Prop} {a0 : Act} {w0 : World}

theorem wpIn_of_wp {l m : Nat} {o : Oper} {a : Act} {w : World} {K : Act → World → Prop} (hd : ∀ c, o.op ≠ .defer c) (h : o.wp P a w K Q) : o.wpIn (Fence.wide.inRound l) m P a w K Q := by
  unfold Oper.wpIn
  refine ⟨fun _ _ => trivial, ?_⟩
  rw [Oper.semAt_eq _ _ _ hd]
  unfold Oper.wp at h
  generalize (execOp a.eval o).run P w = r at *
  cases r with
  | ok x w' =>
    cases x <;> simp only [Oper.upon] at h <;> simp only [Oper.uponIn]
    case value => exact h
    case skip => exact h
    case defer => exact h
    case enter f args => exact ⟨fun hx => by simp [Fence.wide] at hx, CallsIn.inRound _ (callsIn_wide.2 h)⟩
    case row => exact ⟨fun hx => by simp [Fence.wide] at hx, fun c cs _ => let ⟨v, w', r, s⟩ := h c cs; ⟨v, w', r, stepsIn_wide.2 s⟩⟩
  | halt x w' => cases x <;> simp only [Oper.upon] at h <;> simp only [Oper.uponIn] <;> exact h

theorem wanted_b {o : Oper} {a : Act} {i d : Nat} {b : Bool} (hg : o.guard = some (i, b)) (hd : (ops[i]?).bind (·.dst) = some d) (hs : d < a.tmps.size) (he : a.tmps.getD d undef = .bool b) : Region.wanted o (yielded ops a.tmps) = true := by
  have : a.tmps[d]? = some (.bool b) := by
    rw [Array.getD_eq_getD_getElem?, Array.getElem?_eq_getElem hs] at he
    rw [Array.getElem?_eq_getElem hs]
    simpa using he
  simp [Region.wanted, hg, yielded, hd, this]

/-- An operation ahead of the j-th one, that writes nothing that was there. -/
theorem ahead_j {i j : Nat} {w w' : World} (h : i < j) (hb : Below w.heap.size w w') : (i < j → Below w.heap.size w w') ∧ (j ≤ i → R w w') := ⟨fun _ => hb, fun h2 => absurd h2 (by omega)⟩
theorem behind_j {i j : Nat} {w w' : World} (h : j ≤ i) (hb : R w w') : (i < j → Below w.heap.size w w') ∧ (j ≤ i → R w w') := ⟨fun h2 => absurd h2 (by omega), fun _ => hb⟩

/-- No operation defers. -/
def noDefer (ops : Array Oper) : Bool := ops.toList.all fun o => match o.op with | .defer _ => false | _ => true
theorem noDefer_at (h : noDefer ops = true) (i : Nat) (o : Oper) (ho : ops[i]? = some o) : ∀ c, o.op ≠ .defer c := by
  intro c e
  have := List.all_eq_true.1 h o (List.mem_of_getElem? (i := i) (by simpa using ho))
  rw [e] at this
  simp at this

theorem wpAnyIn_midJ {l m : Nat} (j : Nat) (htr : ∀ {a b c : World}, R a b → R b c → R a c) (hbr : ∀ {a b : World}, Below a.heap.size a b → R a b)
    (hlate : ∀ (i : Nat) (o : Oper), ops[i]? = some o → j < i → ∃ e ∈ o.after, Region.binds .any e = true ∧ e.on = j)
    (hnd : (dsts ops).Nodup) (hlt : ∀ d ∈ dsts ops, d < a0.tmps.size) (hback : ∀ (i : Nat) (o : Oper), ops[i]? = some o → ∀ e ∈ o.after, e.on < i)
    (hdf : ∀ (i : Nat) (o : Oper), ops[i]? = some o → ∀ c, o.op ≠ .defer c)
    (hstR : ∀ i v w w', R w0 w → R w w' → Pr i v w → Pr i v w')
    (hop : ∀ i o a w, ops[i]? = some o → MidJ R ops a0 w0 a w → (i = j → Below w0.heap.size w0 w) → (∀ (k : Nat) (o' : Oper) (d : Tmp), ops[k]? = some o' → o'.dst = some d → (∃ e ∈ o'.after, Region.binds .any e = true ∧ e.on = i) → a.tmps.getD d undef = a0.tmps.getD d undef) → (∀ e ∈ o.after, Region.binds .any e = true → Done ops Pr e.on a w) →
      Region.wanted o (yielded ops a.tmps) = true ∧ o.wp P a w (fun a' w' => ∃ v, a' = a.put o.dst v ∧ Pr i v w' ∧ (i < j → Below w.heap.size w w') ∧ (j ≤ i → R w w')) Q)
    (hend : ∀ a w, MidJ R ops a0 w0 a w → (∀ i, i < ops.size → Done ops Pr i a w) → Q .normal a w) :
    ∀ (fuel : Nat) (listed : Array Bool) (a : Act) (w : World), listed.size = ops.size → listed.toList.count false ≤ fuel → MidJ R ops a0 w0 a w → (listed.getD j false = false → Below w0.heap.size w0 w) → (∀ (i : Nat) (o : Oper), ops[i]? = some o → listed.getD i false = true → ∀ e ∈ o.after, Region.binds .any e = true → listed.getD e.on false = true) →
      (∀ (i : Nat) (o : Oper) (d : Tmp), ops[i]? = some o → o.dst = some d → listed.getD i false = false → a.tmps.getD d undef = a0.tmps.getD d undef) →
      (∀ i, listed.getD i false = true → Done ops Pr i a w) → wpAnyIn (Fence.wide.inRound l) m P .any ops Q fuel listed a w := by
  intro fuel
  induction fuel with
  | zero =>
    intro listed a w hs hc hM hB hL hU hD
    have hall : ∀ i, i < ops.size → listed.getD i false = true := by
      intro i hi
      cases h : listed.getD i false with
      | true => rfl
      | false =>
        exfalso
        have hi' : i < listed.size := by omega
        rw [Array.getD_eq_getD_getElem?, Array.getElem?_eq_getElem hi'] at h
        have : false ∈ listed.toList := by
          rw [← h]; simp
        have := List.count_pos_iff.2 this
        omega
    refine ⟨?_, hend a w hM fun i hi => hD i (hall i hi)⟩
    apply List.eq_nil_iff_forall_not_mem.2
    intro j hj
    rw [mem_ready] at hj
    obtain ⟨h1, o, ho, _⟩ := hj
    have hlt := (Array.getElem?_eq_some_iff.1 ho).1
    have h2 := hall j hlt
    have hi' : j < listed.size := by omega
    rw [Array.getD_eq_getD_getElem?, Array.getElem?_eq_getElem hi'] at h1 h2
    simp at h1 h2
    rw [h1] at h2; cases h2
  | succ fuel ih =>
    intro listed a w hs hc hM hB hL hU hD
    refine ⟨fun hr => hend a w hM fun i hi => hD i (all_listed hback hs hr i hi), fun i hi => ?_⟩
    rw [mem_ready] at hi
    obtain ⟨h1, o, ho, haf⟩ := hi
    have hlt' := (Array.getElem?_eq_some_iff.1 ho).1
    have hi' : i < listed.size := by omega
    have h1f : listed.getD i false = false := by
      rw [Array.getD_eq_getD_getElem?, Array.getElem?_eq_getElem hi'] at h1 ⊢
      simpa using h1
    obtain ⟨hw, hwp⟩ := hop i o a w ho hM (fun e => hB (by rw [← e]; exact h1f)) (fun k o' d ho' hd ⟨e, he, hb, hei⟩ => hU k o' d ho' hd (by
      cases hlk : listed.getD k false with
      | false => rfl
      | true =>
        have := hL k o' ho' hlk e he hb
        rw [hei, h1f] at this
        cases this)) fun e he hb => hD e.on (haf e he hb)
    unfold wpOpIn
    rw [ho]
    simp only [hw, if_true]
    refine Oper.wpIn_mono ?_ (wpIn_of_wp (hdf i o ho) hwp)
    rintro a' w' ⟨v, rfl, hv, hbl⟩
    have hR : R w w' := by
      by_cases hij : j ≤ i
      · exact hbl.2 hij
      · exact hbr (hbl.1 (by omega))
    have hset : ∀ k, (listed.setIfInBounds i true).getD k false = if k = i then true else listed.getD k false := by
      intro k
      rw [Array.getD_eq_getD_getElem?, Array.getElem?_setIfInBounds, Array.getD_eq_getD_getElem?]
      by_cases hk : k = i
      · subst hk; simp [hi']
      · have : ¬ i = k := fun e => hk e.symm
        simp [hk, this]
    refine ih _ _ _ (by simpa using hs) ?_ ⟨?_, ?_, htr hM.rel hR, ?_⟩ ?_ ?_ ?_ ?_
    · have hf : listed.toList[i]'(by simpa using hi') = false := by
        rw [Array.getD_eq_getD_getElem?, Array.getElem?_eq_getElem hi'] at h1
        simpa using h1
      have : (listed.setIfInBounds i true).toList = listed.toList.set i true := by simp
      rw [this, List.count_set (by simpa using hi'), hf]
      have hpos : 0 < listed.toList.count false := List.count_pos_iff.2 (by rw [← hf]; exact List.getElem_mem _)
      have e1 : ((false == false) = true) := rfl
      have e2 : ¬ ((true == false) = true) := by decide
      rw [if_pos e1, if_neg e2]
      omega
    · rw [put_size]; exact hM.tmps
    · rw [put_defers']; exact hM.defers
    · intro s hsd
      rw [put_getD_ne (fun e => hsd (mem_dsts ho e))]
      exact hM.other s hsd
    · intro hf
      rw [hset] at hf
      by_cases hji : j = i
      · rw [if_pos hji] at hf; cases hf
      · rw [if_neg hji] at hf
        have hij : i < j := by
          rcases Nat.lt_or_ge i j with h | h
          · exact h
          · exfalso
            obtain ⟨e, he, hb, hej⟩ := hlate i o ho (by omega)
            have := haf e he hb
            rw [hej, hf] at this
            cases this
        have hbl := hbl.1 hij
        have h0 := hB hf
        exact h0.trans (hbl.mono h0.size)
    · intro k o' ho' hk e he hb
      rw [hset] at hk ⊢
      by_cases hki : k = i
      · subst hki
        obtain rfl : o' = o := Option.some.inj (ho'.symm.trans ho)
        have := haf e he hb
        by_cases hei : e.on = k
        · rw [if_pos hei]
        · rw [if_neg hei]; exact this
      · rw [if_neg hki] at hk
        by_cases hei : e.on = i
        · rw [if_pos hei]
        · rw [if_neg hei]; exact hL k o' ho' hk e he hb
    · intro k o' d ho' hd hk
      rw [hset] at hk
      by_cases hki : k = i
      · rw [if_pos hki] at hk; cases hk
      · rw [if_neg hki] at hk
        rw [put_getD_ne (fun e => hki (dst_inj hnd ho' ho hd e))]
        exact hU k o' d ho' hd hk
    · intro k hk
      by_cases hki : k = i
      · subst hki
        intro o' d ho' hd
        obtain rfl : o' = o := Option.some.inj (ho'.symm.trans ho)
        rw [hd, put_getD_eq (by rw [hM.tmps]; exact hlt d (mem_dsts ho hd))]
        exact hv
      · have hk2 : listed.getD k false = true := by
          rw [hset, if_neg hki] at hk; exact hk
        intro o' d ho' hd
        rw [put_getD_ne (fun e => hki (dst_inj hnd ho' ho hd e))]
        have hp := hD k hk2 o' d ho' hd
        exact hstR k _ w w' hM.rel hR hp

/-- A REGION THAT DRAWS ITS ORDER, FROM ONE OF WHOSE OPERATIONS ON IT WRITES, IN A LOOP'S ROUND. -/
theorem wpIn_region_midJ {id N l m : Nat} (j : Nat) (R : World → World → Prop) (Pr : Nat → Value → World → Prop) (htr : ∀ {a b c : World}, R a b → R b c → R a c) (hbr : ∀ {a b : World}, Below a.heap.size a b → R a b)
    (hm : P.follows .mixedOrders = true) (hok : regionOk ops N = true) (hlate : lateOk ops j = true) (hN : a0.tmps.size = N)
    (hdf : noDefer ops = true)
    (hstR : ∀ i v w w', R w0 w → R w w' → Pr i v w → Pr i v w')
    (hop : ∀ i o a w, ops[i]? = some o → MidJ R ops a0 w0 a w → (i = j → Below w0.heap.size w0 w) → (∀ (k : Nat) (o' : Oper) (d : Tmp), ops[k]? = some o' → o'.dst = some d → (o'.after.any fun e => e.on == i && Region.binds .any e) = true → a.tmps.getD d undef = a0.tmps.getD d undef) → (∀ k, (o.after.any fun e => e.on == k && Region.binds .any e) = true → Done ops Pr k a w) →
      Region.wanted o (yielded ops a.tmps) = true ∧ o.wp P a w (fun a' w' => ∃ v, a' = a.put o.dst v ∧ Pr i v w' ∧ (i < j → Below w.heap.size w w') ∧ (j ≤ i → R w w')) Q)
    (hend : ∀ a w, MidJ R ops a0 w0 a w → (∀ i, i < ops.size → Done ops Pr i a w) → Q .normal a w) :
    (Code.region id ops true).wpIn (Fence.wide.inRound l) m P Q a0 w0 := by
  have hok' := hok
  simp only [regionOk, Bool.and_eq_true, decide_eq_true_eq] at hok'
  refine wpIn_region_any hm (wpAnyIn_midJ (R := R) (Pr := Pr) (a0 := a0) (w0 := w0) j (fun h k => htr h k) (fun h => hbr h) (lateOk_at hlate) hok'.1.1 (fun d hd => by rw [hN]; simpa using (List.all_eq_true.1 hok'.1.2) d hd) (regionOk_back hok) (noDefer_at hdf) hstR
    (fun i o a w ho hM hB hU hD => hop i o a w ho hM hB (fun k o' d ho' hd hk => hU k o' d ho' hd (any_edge hk)) fun j hj => ?_) hend _ _ a0 { w0 with drawn := w0.drawn + 1 } (by simp) ?_ (show MidJ R ops a0 w0 a0 { w0 with drawn := w0.drawn + 1 } from ⟨rfl, rfl, hbr (below_drew1 w0), fun _ _ => rfl⟩) (fun _ => below_drew1 w0) ?_ (fun _ _ _ _ _ _ => rfl) ?_)
  · obtain ⟨e, he, hb, hj⟩ := any_edge hj
    rw [← hj]
    exact hD e he hb
  · simp
  · intro i o ho hi
    exfalso
    rw [Array.getD_eq_getD_getElem?, Array.getElem?_replicate] at hi
    split at hi <;> simp at hi
  · intro i hi
    exfalso
    rw [Array.getD_eq_getD_getElem?, Array.getElem?_replicate] at hi
    split at hi <;> simp at hi
end

end Go.Proofs.YtiembenkdldklaaDoor
