/-
  Layer 8: BitsSets: the plain side.
-/
import Derived.Test.YtiembenkdldklaaDoorYho
namespace Go.Proofs.YtiembenkdldklaaDoor
open Go Go.RowKit
set_option linter.unusedVariables false

theorem allB_count (l : List Bool) : (allB l).length = (List.range l.length).countP (bt l) := by
  unfold allB allK; rw [List.countP_eq_length_filter]
theorem count_add {L : List Nat} {f g h k : Nat → Bool} (hp : ∀ i ∈ L, (f i).toNat + (g i).toNat = (h i).toNat + (k i).toNat) : L.countP f + L.countP g = L.countP h + L.countP k := by
  have c1 : ∀ (u : Nat → Bool) (x : Nat) (r : List Nat), (x :: r).countP u = r.countP u + (u x).toNat := fun u x r => by
    rw [List.countP_cons]; cases u x <;> simp
  induction L with
  | nil => rfl
  | cons x r ih =>
    have h1 := hp x (by simp)
    have h2 := ih fun i hi => hp i (by simp [hi])
    rw [c1, c1, c1, c1]
    omega
theorem count_zero (L : List Nat) : L.countP (fun _ => false) = 0 := List.countP_eq_zero.2 (by simp)
theorem any1 (m : List Bool) (i : Nat) : anyI [m] i = bt m i := by unfold anyI; simp
theorem all1 (m : List Bool) (i : Nat) : allI [m] i = bt m i := by unfold allI; simp

section
variable {a b : List Bool}
theorem bt_J (i : Nat) (h : b.length = a.length) : bt (doB 0 a [b]) i = (bt a i || bt b i) := by
  rw [bt_doB]; unfold doR; rw [any1]
  by_cases hi : i < a.length
  · simp [hi]
  · rw [bt_ge (l := a) (by omega), bt_ge (l := b) (by omega)]; simp
theorem bt_M (i : Nat) : bt (doB 1 a [b]) i = (bt a i && bt b i) := by
  rw [bt_doB]; unfold doR; rw [all1]
  by_cases hi : i < a.length
  · simp [hi]
  · rw [bt_ge (l := a) (by omega)]; simp
theorem bt_L (i : Nat) : bt (doB 2 a [b]) i = (bt a i && !bt b i) := by
  rw [bt_doB]; unfold doR; rw [any1]
  by_cases hi : i < a.length
  · simp [hi]
  · rw [bt_ge (l := a) (by omega)]; simp

/-- All that BitsSets asks. -/
structure SetsFacts (a b : List Bool) (i : Int) : Prop where
  w1 : withinB a (doB 0 a [b]) = true
  w2 : withinB b (doB 0 a [b]) = true
  w3 : withinB (doB 1 a [b]) a = true
  w4 : withinB (doB 1 a [b]) b = true
  c1 : (allB (doB 0 a [b])).length = (allB a).length + manyB 0 a [b]
  c2 : (allB (doB 1 a [b])).length + manyB 1 a [b] = (allB a).length
  c3 : (allB (doB 2 a [b])).length + manyB 2 a [b] = (allB a).length
  c4 : manyB 1 a [b] + manyB 2 a [b] = (allB a).length
  h1 : hasB (doB 0 a [b]) i = (hasB a i || hasB b i)
  h2 : hasB (doB 1 a [b]) i = (hasB a i && hasB b i)
  h3 : hasB (doB 2 a [b]) i = (hasB a i && !hasB b i)
  e1 : manyB 0 (doB 2 a [b]) [doB 1 a [b]] = (allB (doB 1 a [b])).length
  e2 : doB 0 (doB 2 a [b]) [doB 1 a [b]] = a
  s1 : (allB (doB 0 a [b])).length + (allB (doB 1 a [b])).length = (allB a).length + (allB b).length

theorem sets_facts (h : b.length = a.length) (i : Int) : SetsFacts a b i := by
  have cJ : (allB (doB 0 a [b])).length = (List.range a.length).countP (fun i => bt a i || bt b i) := by
    rw [allB_count, doB_len]; exact List.countP_congr fun i _ => by rw [bt_J i h]
  have cM : (allB (doB 1 a [b])).length = (List.range a.length).countP (fun i => bt a i && bt b i) := by
    rw [allB_count, doB_len]; exact List.countP_congr fun i _ => by rw [bt_M i]
  have cL : (allB (doB 2 a [b])).length = (List.range a.length).countP (fun i => bt a i && !bt b i) := by
    rw [allB_count, doB_len]; exact List.countP_congr fun i _ => by rw [bt_L i]
  have cA : (allB a).length = (List.range a.length).countP (fun i => bt a i) := allB_count a
  have cB : (allB b).length = (List.range a.length).countP (fun i => bt b i) := by rw [allB_count, h]
  have m0 : manyB 0 a [b] = (List.range a.length).countP (fun i => !bt a i && bt b i) := List.countP_congr fun i _ => by
    unfold doR; rw [any1]; cases bt a i <;> cases bt b i <;> simp
  have m1 : manyB 1 a [b] = (List.range a.length).countP (fun i => bt a i && !bt b i) := List.countP_congr fun i _ => by
    unfold doR; rw [all1]; cases bt a i <;> cases bt b i <;> simp
  have m2 : manyB 2 a [b] = (List.range a.length).countP (fun i => bt a i && bt b i) := List.countP_congr fun i _ => by
    unfold doR; rw [any1]; cases bt a i <;> cases bt b i <;> simp
  have mE : manyB 0 (doB 2 a [b]) [doB 1 a [b]] = (List.range a.length).countP (fun i => bt a i && bt b i) := by
    unfold manyB difK
    rw [doB_len]
    refine List.countP_congr fun i _ => ?_
    unfold doR
    rw [any1, bt_L, bt_M]
    cases bt a i <;> cases bt b i <;> simp
  have z := count_zero (List.range a.length)
  refine ⟨within_iff.2 fun i hi => by rw [bt_J i h, hi]; rfl, within_iff.2 fun i hi => by rw [bt_J i h, hi]; simp, within_iff.2 fun i hi => ?_, within_iff.2 fun i hi => ?_, ?_, ?_, ?_, ?_, ?_, ?_, ?_, ?_, ?_, ?_⟩
  · rw [bt_M] at hi; simp at hi; exact hi.1
  · rw [bt_M] at hi; simp at hi; exact hi.2
  · rw [cJ, cA, m0]
    have := count_add (L := List.range a.length) (f := fun i => bt a i || bt b i) (g := fun _ => false) (h := fun i => bt a i) (k := fun i => !bt a i && bt b i) fun i _ => by cases bt a i <;> cases bt b i <;> rfl
    omega
  · rw [cM, cA, m1]
    have := count_add (L := List.range a.length) (f := fun i => bt a i && bt b i) (g := fun i => bt a i && !bt b i) (h := fun i => bt a i) (k := fun _ => false) fun i _ => by cases bt a i <;> cases bt b i <;> rfl
    omega
  · rw [cL, cA, m2]
    have := count_add (L := List.range a.length) (f := fun i => bt a i && !bt b i) (g := fun i => bt a i && bt b i) (h := fun i => bt a i) (k := fun _ => false) fun i _ => by cases bt a i <;> cases bt b i <;> rfl
    omega
  · rw [m1, m2, cA]
    have := count_add (L := List.range a.length) (f := fun i => bt a i && !bt b i) (g := fun i => bt a i && bt b i) (h := fun i => bt a i) (k := fun _ => false) fun i _ => by cases bt a i <;> cases bt b i <;> rfl
    omega
  · unfold hasB; rw [bt_J _ h]; cases decide (0 ≤ i) <;> simp
  · unfold hasB; rw [bt_M]; cases decide (0 ≤ i) <;> simp
  · unfold hasB; rw [bt_L]; cases decide (0 ≤ i) <;> simp
  · rw [mE, cM]
  · refine bt_ext (by rw [doB_len, doB_len]) fun i => ?_
    rw [bt_J i (by rw [doB_len, doB_len]), bt_L, bt_M]
    cases bt a i <;> cases bt b i <;> rfl
  · rw [cJ, cM, cA, cB]
    exact count_add fun i _ => by cases bt a i <;> cases bt b i <;> rfl
end

end Go.Proofs.YtiembenkdldklaaDoor
