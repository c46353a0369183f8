/-
  A region that draws its order, one of whose operations writes a row. No program is named here.
-/
import Derived.Test.YtiembenkdldklaaDoorInv
namespace Go.Proofs.YtiembenkdldklaaDoor
open Go Go.RowKit
set_option linter.unusedVariables false

section
variable {R : World → World → Prop} {P : Program} {ops : Array Oper} {Q : Exit → Act → World → Prop} {Pr : Nat → Value → World → Prop} {a0 : Act} {w0 : World}

/-- In the middle of a region one of whose operations, that at j, may write a row. -/
structure MidJ (R : World → World → Prop) (ops : Array Oper) (a0 : Act) (w0 : World) (a : Act) (w : World) : Prop where
  tmps : a.tmps.size = a0.tmps.size
  defers : a.defers = a0.defers
  rel : R w0 w
  other : ∀ s, s ∉ dsts ops → a.tmps.getD s undef = a0.tmps.getD s undef

theorem wpAny_midJ (j : Nat) (htr : ∀ {a b c : World}, R a b → R b c → R a c) (hbr : ∀ {a b : World}, Below a.heap.size a b → R a b)
    (hlate : ∀ (i : Nat) (o : Oper), ops[i]? = some o → j < i → ∃ e ∈ o.after, Region.binds .any e = true ∧ e.on = j)
    (hnd : (dsts ops).Nodup) (hlt : ∀ d ∈ dsts ops, d < a0.tmps.size) (hback : ∀ (i : Nat) (o : Oper), ops[i]? = some o → ∀ e ∈ o.after, e.on < i)
    (hstB : ∀ i v w w', R w0 w → Below w.heap.size w w' → Pr i v w → Pr i v w')
    (hstR : ∀ i v w w', i < j → R w0 w → R w w' → Pr i v w → Pr i v w')
    (hop : ∀ i o a w, ops[i]? = some o → MidJ R ops a0 w0 a w → (i = j → Below w0.heap.size w0 w) → (∀ (k : Nat) (o' : Oper) (d : Tmp), ops[k]? = some o' → o'.dst = some d → (∃ e ∈ o'.after, Region.binds .any e = true ∧ e.on = i) → a.tmps.getD d undef = a0.tmps.getD d undef) → (∀ e ∈ o.after, Region.binds .any e = true → Done ops Pr e.on a w) →
      Region.wanted o (yielded ops a.tmps) = true ∧ o.wp P a w (fun a' w' => ∃ v, a' = a.put o.dst v ∧ Pr i v w' ∧ (i = j → R w w') ∧ (i ≠ j → Below w.heap.size w w')) Q)
    (hend : ∀ a w, MidJ R ops a0 w0 a w → (∀ i, i < ops.size → Done ops Pr i a w) → Q .normal a w) :
    ∀ (fuel : Nat) (listed : Array Bool) (a : Act) (w : World), listed.size = ops.size → listed.toList.count false ≤ fuel → MidJ R ops a0 w0 a w → (listed.getD j false = false → Below w0.heap.size w0 w) → (∀ (i : Nat) (o : Oper), ops[i]? = some o → listed.getD i false = true → ∀ e ∈ o.after, Region.binds .any e = true → listed.getD e.on false = true) →
      (∀ (i : Nat) (o : Oper) (d : Tmp), ops[i]? = some o → o.dst = some d → listed.getD i false = false → a.tmps.getD d undef = a0.tmps.getD d undef) →
      (∀ i, listed.getD i false = true → Done ops Pr i a w) → wpAny P .any ops Q fuel listed a w := by
  intro fuel
  induction fuel with
  | zero =>
    intro listed a w hs hc hM hB hL hU hD
    have hall : ∀ i, i < ops.size → listed.getD i false = true := by
      intro i hi
      cases h : listed.getD i false with
      | true => rfl
      | false =>
        exfalso
        have hi' : i < listed.size := by omega
        rw [Array.getD_eq_getD_getElem?, Array.getElem?_eq_getElem hi'] at h
        have : false ∈ listed.toList := by
          rw [← h]; simp
        have := List.count_pos_iff.2 this
        omega
    refine ⟨?_, hend a w hM fun i hi => hD i (hall i hi)⟩
    apply List.eq_nil_iff_forall_not_mem.2
    intro j hj
    rw [mem_ready] at hj
    obtain ⟨h1, o, ho, _⟩ := hj
    have hlt := (Array.getElem?_eq_some_iff.1 ho).1
    have h2 := hall j hlt
    have hi' : j < listed.size := by omega
    rw [Array.getD_eq_getD_getElem?, Array.getElem?_eq_getElem hi'] at h1 h2
    simp at h1 h2
    rw [h1] at h2; cases h2
  | succ fuel ih =>
    intro listed a w hs hc hM hB hL hU hD
    refine ⟨fun hr => hend a w hM fun i hi => hD i (all_listed hback hs hr i hi), fun i hi => ?_⟩
    rw [mem_ready] at hi
    obtain ⟨h1, o, ho, haf⟩ := hi
    have hlt' := (Array.getElem?_eq_some_iff.1 ho).1
    have hi' : i < listed.size := by omega
    have h1f : listed.getD i false = false := by
      rw [Array.getD_eq_getD_getElem?, Array.getElem?_eq_getElem hi'] at h1 ⊢
      simpa using h1
    obtain ⟨hw, hwp⟩ := hop i o a w ho hM (fun e => hB (by rw [← e]; exact h1f)) (fun k o' d ho' hd ⟨e, he, hb, hei⟩ => hU k o' d ho' hd (by
      cases hlk : listed.getD k false with
      | false => rfl
      | true =>
        have := hL k o' ho' hlk e he hb
        rw [hei, h1f] at this
        cases this)) fun e he hb => hD e.on (haf e he hb)
    unfold wpOp
    rw [ho]
    simp only [hw, if_true]
    refine .inl (Oper.wp_mono ?_ hwp)
    rintro a' w' ⟨v, rfl, hv, hbl⟩
    have hR : R w w' := by
      by_cases hij : i = j
      · exact hbl.1 hij
      · exact hbr (hbl.2 hij)
    have hset : ∀ k, (listed.setIfInBounds i true).getD k false = if k = i then true else listed.getD k false := by
      intro k
      rw [Array.getD_eq_getD_getElem?, Array.getElem?_setIfInBounds, Array.getD_eq_getD_getElem?]
      by_cases hk : k = i
      · subst hk; simp [hi']
      · have : ¬ i = k := fun e => hk e.symm
        simp [hk, this]
    refine ih _ _ _ (by simpa using hs) ?_ ⟨?_, ?_, htr hM.rel hR, ?_⟩ ?_ ?_ ?_ ?_
    · have hf : listed.toList[i]'(by simpa using hi') = false := by
        rw [Array.getD_eq_getD_getElem?, Array.getElem?_eq_getElem hi'] at h1
        simpa using h1
      have : (listed.setIfInBounds i true).toList = listed.toList.set i true := by simp
      rw [this, List.count_set (by simpa using hi'), hf]
      have hpos : 0 < listed.toList.count false := List.count_pos_iff.2 (by rw [← hf]; exact List.getElem_mem _)
      have e1 : ((false == false) = true) := rfl
      have e2 : ¬ ((true == false) = true) := by decide
      rw [if_pos e1, if_neg e2]
      omega
    · rw [put_size]; exact hM.tmps
    · rw [put_defers']; exact hM.defers
    · intro s hsd
      rw [put_getD_ne (fun e => hsd (mem_dsts ho e))]
      exact hM.other s hsd
    · intro hf
      rw [hset] at hf
      by_cases hji : j = i
      · rw [if_pos hji] at hf; cases hf
      · rw [if_neg hji] at hf
        have hbl := hbl.2 (fun e => hji e.symm)
        have h0 := hB hf
        exact h0.trans (hbl.mono h0.size)
    · intro k o' ho' hk e he hb
      rw [hset] at hk ⊢
      by_cases hki : k = i
      · subst hki
        obtain rfl : o' = o := Option.some.inj (ho'.symm.trans ho)
        have := haf e he hb
        by_cases hei : e.on = k
        · rw [if_pos hei]
        · rw [if_neg hei]; exact this
      · rw [if_neg hki] at hk
        by_cases hei : e.on = i
        · rw [if_pos hei]
        · rw [if_neg hei]; exact hL k o' ho' hk e he hb
    · intro k o' d ho' hd hk
      rw [hset] at hk
      by_cases hki : k = i
      · rw [if_pos hki] at hk; cases hk
      · rw [if_neg hki] at hk
        rw [put_getD_ne (fun e => hki (dst_inj hnd ho' ho hd e))]
        exact hU k o' d ho' hd hk
    · intro k hk
      by_cases hki : k = i
      · subst hki
        intro o' d ho' hd
        obtain rfl : o' = o := Option.some.inj (ho'.symm.trans ho)
        rw [hd, put_getD_eq (by rw [hM.tmps]; exact hlt d (mem_dsts ho hd))]
        exact hv
      · have hk2 : listed.getD k false = true := by
          rw [hset, if_neg hki] at hk; exact hk
        intro o' d ho' hd
        rw [put_getD_ne (fun e => hki (dst_inj hnd ho' ho hd e))]
        have hp := hD k hk2 o' d ho' hd
        by_cases hij : i = j
        · have hlt2 : k < j := by
            rcases Nat.lt_or_ge k j with h | h
            · exact h
            · exfalso
              have hkj : j < k := by omega
              obtain ⟨e, he, hb, hej⟩ := hlate k o' ho' hkj
              have := hL k o' ho' hk2 e he hb
              rw [hej, ← hij, h1f] at this
              cases this
          exact hstR k _ w w' hlt2 hM.rel hR hp
        · exact hstB k _ w w' hM.rel (hbl.2 hij) hp

/-- Every operation behind j waits for it. -/
def lateOk (ops : Array Oper) (j : Nat) : Bool :=
  (List.range ops.size).all fun i => decide (i ≤ j) || ((ops[i]?).map fun o => o.after.toList.any fun e => Region.binds .any e && decide (e.on = j)).getD true
theorem lateOk_at {j : Nat} (h : lateOk ops j = true) (i : Nat) (o : Oper) (ho : ops[i]? = some o) (hji : j < i) : ∃ e ∈ o.after, Region.binds .any e = true ∧ e.on = j := by
  have hlt := (Array.getElem?_eq_some_iff.1 ho).1
  have h2 := (List.all_eq_true.1 h) i (by rw [List.mem_range]; exact hlt)
  rw [ho] at h2
  simp only [Option.map_some, Option.getD_some, Bool.or_eq_true, decide_eq_true_eq] at h2
  rcases h2 with h2 | h2
  · omega
  · obtain ⟨e, he, h3⟩ := List.any_eq_true.1 h2
    simp only [Bool.and_eq_true, decide_eq_true_eq] at h3
    exact ⟨e, Array.mem_toList_iff.1 he, h3.1, h3.2⟩

theorem any_edge {o : Oper} {k : Nat} (h : (o.after.any fun e => e.on == k && Region.binds .any e) = true) : ∃ e ∈ o.after, Region.binds .any e = true ∧ e.on = k := by
  rw [← Array.any_toList, List.any_eq_true] at h
  obtain ⟨e, he, hj⟩ := h
  have he := Array.mem_toList_iff.1 he
  simp only [Bool.and_eq_true, beq_iff_eq] at hj
  exact ⟨e, he, hj.2, hj.1⟩

/-- A REGION THAT DRAWS ITS ORDER, ONE OF WHOSE OPERATIONS WRITES. -/
theorem wp_region_midJ {id N : Nat} (j : Nat) (R : World → World → Prop) (Pr : Nat → Value → World → Prop) (htr : ∀ {a b c : World}, R a b → R b c → R a c) (hbr : ∀ {a b : World}, Below a.heap.size a b → R a b)
    (hm : P.follows .mixedOrders = true) (hok : regionOk ops N = true) (hlate : lateOk ops j = true) (hN : a0.tmps.size = N)
    (hstB : ∀ i v w w', R w0 w → Below w.heap.size w w' → Pr i v w → Pr i v w')
    (hstR : ∀ i v w w', i < j → R w0 w → R w w' → Pr i v w → Pr i v w')
    (hop : ∀ i o a w, ops[i]? = some o → MidJ R ops a0 w0 a w → (i = j → Below w0.heap.size w0 w) → (∀ (k : Nat) (o' : Oper) (d : Tmp), ops[k]? = some o' → o'.dst = some d → (o'.after.any fun e => e.on == i && Region.binds .any e) = true → a.tmps.getD d undef = a0.tmps.getD d undef) → (∀ k, (o.after.any fun e => e.on == k && Region.binds .any e) = true → Done ops Pr k a w) →
      Region.wanted o (yielded ops a.tmps) = true ∧ o.wp P a w (fun a' w' => ∃ v, a' = a.put o.dst v ∧ Pr i v w' ∧ (i = j → R w w') ∧ (i ≠ j → Below w.heap.size w w')) Q)
    (hend : ∀ a w, MidJ R ops a0 w0 a w → (∀ i, i < ops.size → Done ops Pr i a w) → Q .normal a w) :
    (Code.region id ops true).wp P Q a0 w0 := by
  have hok' := hok
  simp only [regionOk, Bool.and_eq_true, decide_eq_true_eq] at hok'
  refine wp_region_any hm (wpAny_midJ (R := R) (Pr := Pr) (a0 := a0) (w0 := w0) j (fun h k => htr h k) (fun h => hbr h) (lateOk_at hlate) hok'.1.1 (fun d hd => by rw [hN]; simpa using (List.all_eq_true.1 hok'.1.2) d hd) (regionOk_back hok) hstB hstR
    (fun i o a w ho hM hB hU hD => hop i o a w ho hM hB (fun k o' d ho' hd hk => hU k o' d ho' hd (any_edge hk)) fun j hj => ?_) hend _ _ a0 { w0 with drawn := w0.drawn + 1 } (by simp) ?_ (show MidJ R ops a0 w0 a0 { w0 with drawn := w0.drawn + 1 } from ⟨rfl, rfl, hbr (below_drew1 w0), fun _ _ => rfl⟩) (fun _ => below_drew1 w0) ?_ (fun _ _ _ _ _ _ => rfl) ?_)
  · obtain ⟨e, he, hb, hj⟩ := any_edge hj
    rw [← hj]
    exact hD e he hb
  · simp
  · intro i o ho hi
    exfalso
    rw [Array.getD_eq_getD_getElem?, Array.getElem?_replicate] at hi
    split at hi <;> simp at hi
  · intro i hi
    exfalso
    rw [Array.getD_eq_getD_getElem?, Array.getElem?_replicate] at hi
    split at hi <;> simp at hi
end

/-- The frame behind such a region, which fills the slots from s on, m of them, and slot p, written out. -/
theorem frame_two {t : Array Value} {l : List Value} {p s m : Nat} (hs : t.size = l.length) (hps : p < s) (hN : s + m ≤ l.length)
    (h : ∀ i, i < l.length → i ≠ p → (i < s ∨ s + m ≤ i) → t.getD i undef = l.toArray.getD i undef) :
    t = (l.take p ++ (t.getD p undef :: ((l.drop (p + 1)).take (s - (p + 1)) ++ ((List.range m).map (fun i => t.getD (s + i) undef) ++ l.drop (s + m))))).toArray := by
  apply Array.ext
  · simp; omega
  · intro i h1 h2
    have e : t[i] = t.getD i undef := by simp [Array.getD_eq_getD_getElem?, h1]
    have hl : i < l.length := by omega
    have e2 : l.toArray.getD i undef = l[i] := by simp [Array.getD_eq_getD_getElem?, hl]
    have e3 : ∀ (r : List Value) (h : i < r.toArray.size), r.toArray[i] = r.getD i undef := by
      intro r h
      have : i < r.length := by simpa using h
      simp [List.getD_eq_getElem?_getD, this]
    rw [e, e3]
    simp only [List.getD_eq_getElem?_getD]
    rcases Nat.lt_trichotomy i p with hp | rfl | hp
    · rw [h i hl (by omega) (.inl (by omega)), e2, List.getElem?_append_left (by simp; omega), List.getElem?_take_of_lt hp]
      simp [hl]
    · rw [List.getElem?_append_right (by simp; omega)]
      simp only [List.length_take]
      rw [show i - min i l.length = 0 by omega]
      simp
    · rw [List.getElem?_append_right (by simp; omega)]
      simp only [List.length_take]
      obtain ⟨j, hj⟩ : ∃ j, i - min p l.length = j + 1 := ⟨i - p - 1, by omega⟩
      rw [hj, List.getElem?_cons_succ]
      have hij : i = p + 1 + j := by omega
      by_cases hi1 : i < s
      · rw [h i hl (by omega) (.inl hi1), e2, List.getElem?_append_left (by simp; omega), List.getElem?_take_of_lt (by omega), List.getElem?_drop, ← hij]
        simp [hl]
      · rw [List.getElem?_append_right (by simp; omega)]
        simp only [List.length_take, List.length_drop]
        by_cases hi2 : i < s + m
        · rw [List.getElem?_append_left (by simp; omega), List.getElem?_map, List.getElem?_range (by omega)]
          simp only [Option.map_some, Option.getD_some]
          congr 1
          omega
        · rw [h i hl (by omega) (.inr (by omega)), e2, List.getElem?_append_right (by simp; omega)]
          simp only [List.length_map, List.length_range, List.getElem?_drop]
          rw [show s + m + (j - min (s - (p + 1)) (l.length - (p + 1)) - m) = i by omega]
          simp [hl]

theorem MidJ.frame {R : World → World → Prop} {ops : Array Oper} {a0 a : Act} {w0 w : World} (hM : MidJ R ops a0 w0 a w) (l : List Value) (p s m : Nat) (hl : a0.tmps = l.toArray) (hps : p < s) (hN : s + m ≤ l.length)
    (hd : ((List.range l.length).all fun i => i == p || (decide (s ≤ i) && decide (i < s + m)) || decide (i ∉ dsts ops)) = true) :
    a.tmps = (l.take p ++ (a.tmps.getD p undef :: ((l.drop (p + 1)).take (s - (p + 1)) ++ ((List.range m).map (fun i => a.tmps.getD (s + i) undef) ++ l.drop (s + m))))).toArray := by
  refine frame_two (by rw [hM.tmps, hl]; simp) hps hN fun i hi hp ho => ?_
  have := (List.all_eq_true.1 hd) i (List.mem_range.2 hi)
  rw [← hl]
  refine hM.other i ?_
  simp only [Bool.or_eq_true, Bool.and_eq_true, decide_eq_true_eq, beq_iff_eq] at this
  rcases this with (h | h) | h
  · exact absurd h hp
  · omega
  · exact h

end Go.Proofs.YtiembenkdldklaaDoor
