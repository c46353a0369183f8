/-
  A region that draws its order, in a round of a range over a function: what is shown of it as it runs elsewhere holds in a round, too. No program is named here.
-/
import Derived.Test.YtiembenkdldklaaDoorInx
import Derived.StillTailTactics
namespace Go.Proofs.YtiembenkdldklaaDoor
open Go Go.RowKit
set_option linter.unusedVariables false

section
variable {P : Program} {ops : Array Oper} {Q : Exit → Act → World → Prop} {md : Region.Mode} {r m : Nat}

theorem wpOpIn_of_wpOp (hd : noDefer ops = true) (hlo : ∀ a w, ¬ Q .outgrown a w) {i : Nat} {K : Act → World → Prop} {a : Act} {w : World} (h : wpOp P ops Q i K a w) : wpOpIn (Fence.wide.inRound r) m P ops Q i K a w := by
  unfold wpOp at h
  unfold wpOpIn
  cases ho : ops[i]? with
  | none => rw [ho] at h; exact h
  | some o =>
    rw [ho] at h
    simp only at h ⊢
    split
    · rename_i hw
      rw [if_pos hw] at h
      rcases h with h | ⟨_, x, y, hx⟩
      · exact wpIn_of_wp (noDefer_at hd i o ho) h
      · exact absurd hx (hlo x y)
    · rename_i hw
      rw [if_neg hw] at h
      exact ⟨fun _ _ => trivial, h⟩
theorem wpAnyIn_of_wpAny (hd : noDefer ops = true) (hlo : ∀ a w, ¬ Q .outgrown a w) : ∀ (fuel : Nat) (listed : Array Bool) (a : Act) (w : World), wpAny P md ops Q fuel listed a w → wpAnyIn (Fence.wide.inRound r) m P md ops Q fuel listed a w
  | 0, _, _, _, h => h
  | fuel + 1, _, _, _, h => ⟨h.1, fun i hi => wpOpIn_of_wpOp hd hlo (wpOp_mono (fun a' w' h' => wpAnyIn_of_wpAny hd hlo fuel _ a' w' h') (h.2 i hi))⟩
/-- Whatever order: in a round. -/
theorem wpIn_region_of_any {id : Nat} {a : Act} {w : World} (hm : P.follows .mixedOrders = true) (hd : noDefer ops = true) (hlo : ∀ a w, ¬ Q .outgrown a w) (h : wpAny P .any ops Q ops.size (Array.replicate ops.size false) a w.drew) : (Code.region id ops true).wpIn (Fence.wide.inRound r) m P Q a w :=
  wpIn_region_any hm (wpAnyIn_of_wpAny hd hlo _ _ _ _ h)
end

section
variable {P : Program} {Q : Exit → Act → World → Prop} {r m : Nat}
/-- One order for all: the head reads, or calls what leaves the world; the tail comes in one order. In a round. -/
theorem wpIn_region_tail {id : Nat} {a : Act} {w : World} {l : List Oper} (n : Nat) (hm : P.follows .mixedOrders = true) (hB : Region.lexTailB .any l.toArray n = true) (hd : noDefer l.toArray = true) (hlo : ∀ a w, ¬ Q .outgrown a w)
    (h : wpStill P l.toArray w.drew (fun a' => wpList P l.toArray Q (l.drop n) a' w.drew) (l.take n) a) : (Code.region id l.toArray true).wpIn (Fence.wide.inRound r) m P Q a w := by
  refine wpIn_region_of_any hm hd hlo ?_
  have hB' := hB
  simp only [Region.lexTailB, Bool.and_eq_true, decide_eq_true_eq] at hB'
  have hsz : n + (l.drop n).length = l.toArray.size := by have := hB'.1.1.1.2; simp at this ⊢; omega
  have hhead := wpAnyL_lex (md := .any) (g := (l.drop n).length) hB'.1.1.1.1 hB'.1.1.2 hB'.1.2 hB'.1.1.1.2 (l.take n) 0 (Array.replicate l.toArray.size false) a
    (fun j hj => by have : j < n := by simp at hj; omega
                    simp [this])
    (by have := hB'.1.1.1.2; simp at this ⊢; omega)
    ⟨by simp, fun _ _ _ hl => absurd hl (by rw [getD_replicate_false]; simp), fun t _ ht => getD_in (by simpa using ht) (getD_replicate_false _ _)⟩
    (by
      have h1 := hB'.2
      have h2 := hB'.1.1.1.2
      have h3 : l.toArray.size - n = (l.drop n).length := by simp
      rw [h3] at h1
      have h4 : (l.take n).length = n := by simp at h2 ⊢; omega
      rw [h4]
      exact h1) h
  have hall := wpAny_of_head (Q' := Q) (g := (l.drop n).length) (fun listed a' hL => wpAny_of_seq (md := .any) (Q' := Q) (l.drop n) n listed a' w.drew (fun j => by simp [List.getElem?_drop]) hL.1 hL.2) _ _ _ hhead
  rw [show (l.take n).length + (l.drop n).length = l.toArray.size by simp; omega] at hall
  exact hall
end

end Go.Proofs.YtiembenkdldklaaDoor
