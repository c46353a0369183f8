/-
  Layer 4: the numbers that a node names; how trees stand, as plain lists; rows that grow apart from what is kept.
-/
import Derived.Test.YtbcadnkdehknoaaGreatDoorTcf
import Derived.Test.YtbcadnkdehknoaaGreatDoorTrt
import Derived.Test.YtbcadnkdehknoaaGreatDoorPut
import Derived.Test.YtbcadnkdehknoaaGreatDoorTrw
namespace Go.Proofs.YtbcadnkdehknoaaGreatDoor
open Go Go.RowKit
set_option linter.unusedVariables false

def numN (k : Int) : Nat := if k = 2 ∨ k = 3 then 1 else if k = 4 then 2 else 0
def numsL (k : Int) (a b : Nat) : List Nat := [a, b].take (numN k)
mutual
def T.stand : T → List Nat
  | .node k a b ps => k.toNat :: ((numsL k a b).flatMap enc ++ (if 6 ≤ k then enc ps.length else []) ++ T.standL ps)
def T.standL : List T → List Nat
  | [] => []
  | p :: ps => p.stand ++ T.standL ps
end
theorem standL_append : ∀ (xs ys : List T), T.standL (xs ++ ys) = T.standL xs ++ T.standL ys
  | [], ys => by simp [T.standL]
  | x :: xs, ys => by rw [List.cons_append, T.standL, T.standL, standL_append xs ys, List.append_assoc]
theorem standL_take {ps : List V} {i : Nat} {p : V} (h : ps[i]? = some p) : T.standL (V.absL (ps.take (i + 1))) = T.standL (V.absL (ps.take i)) ++ p.abs.stand := by
  rw [absL_take h, standL_append]; simp [T.standL]
theorem nums_len (k : Int) (a b : Nat) : (numsL k a b).length = numN k := by
  unfold numsL numN
  split
  · rfl
  · split <;> rfl
theorem enc_sum {l : List Nat} (h : ∀ x ∈ l, x < 18446744073709551616) : (l.flatMap enc).length ≤ 10 * l.length := by
  induction l with
  | nil => simp
  | cons x l ih =>
    rw [List.flatMap_cons, List.length_append, List.length_cons]
    have h1 := enc_ten (h x (by simp))
    have h2 := ih fun y hy => h y (by simp [hy])
    omega
theorem nums_in {k : Int} {a b : Nat} (ha : a < 18446744073709551616) (hb : b < 18446744073709551616) : ∀ x ∈ numsL k a b, x < 18446744073709551616 := by
  intro x hx
  have := List.mem_of_mem_take hx
  simp at this
  rcases this with rfl | rfl <;> assumption
theorem numN_le (k : Int) : numN k ≤ 2 := by unfold numN; split; omega; split <;> omega
/-- How long a tree stands. -/
theorem stand_len {w : World} {lo hi : Nat} : ∀ v : V, Lies w lo hi v → v.abs.stand.length ≤ 31 * v.abs.count := by
  refine V.ind fun k a b A c ps ih hL => ?_
  obtain ⟨hlen, hcap', hk, ha, hb⟩ := hL.caps
  rw [V.count_node, V.abs, T.stand]
  have hp : ∀ l : List V, (∀ p ∈ l, Lies w lo hi p ∧ p.abs.stand.length ≤ 31 * p.abs.count) → (T.standL (V.absL l)).length ≤ 31 * T.countL (V.absL l) := by
    intro l
    induction l with
    | nil => intro _; simp [V.absL, T.standL]
    | cons p l ih2 =>
      intro h
      rw [V.absL, T.standL, T.countL, List.length_append]
      have h1 := (h p (by simp)).2
      have h2 := ih2 fun q hq => h q (by simp [hq])
      omega
  have h1 := hp ps fun p hp => ⟨hL.part hp, ih p hp (hL.part hp)⟩
  have h2 := enc_sum (nums_in (k := k) ha hb)
  rw [nums_len] at h2
  have h3 := numN_le k
  have h4 : (if 6 ≤ k then enc (V.absL ps).length else []).length ≤ 10 := by
    split
    · exact enc_ten (by rw [absL_length]; omega)
    · simp
  simp only [List.length_cons, List.length_append]
  omega

theorem Stp.new {w w' : World} (h : Below w.heap.size w w') (v : Value) : Stp w w' v v := ⟨⟨h.os, h.tape, h.output, h.size, fun i hi _ => h.block i hi⟩, .inl rfl⟩

/-- A row of bytes of the call's own has grown since w0, and lies apart from the blocks of X. -/
structure StI (X : Nat → Prop) (B : Nat) (w0 : World) (v0 : Value) (xs : List Nat) (v : Value) (n : Nat) (W : World) : Prop where
  own : W.ownsRow B 5 1 v n (bs xs)
  stp : Stp w0 W v0 v
  far0 : ∀ g, v0.ownBlock = some g → ¬ X g
  old : ∀ k, X k → k < w0.heap.size
section
variable {X : Nat → Prop} {B n : Nat} {w0 W W' : World} {v0 v v' : Value} {xs : List Nat}
theorem StI.kept (h : StI X B w0 v0 xs v n W) (k : Nat) (hk : X k) : W.heap[k]? = w0.heap[k]? := h.stp.grow.block k (h.old k hk) (fun e => h.far0 k e.symm hk)
theorem StI.far (h : StI X B w0 v0 xs v n W) (g : Nat) (hg : v.ownBlock = some g) : ¬ X g := by
  rcases h.stp.row with e | ⟨k, e, hk⟩
  · exact h.far0 g (e ▸ hg)
  · intro hx
    have := h.old g hx
    rw [e] at hg
    injection hg with hg
    omega
theorem StI.next {n' : Nat} {ys : List Nat} (h : StI X B w0 v0 xs v n W) (hst : Stp W W' v v') (ho : W'.ownsRow B 5 1 v' n' (bs ys)) : StI X B w0 v0 ys v' n' W' := ⟨ho, h.stp.trans hst, h.far0, h.old⟩
theorem StI.under (h : StI X B w0 v0 xs v n W) (hb : Below W.heap.size W W') : StI X B w0 v0 xs v n W' := ⟨own_below h.own hb (own_lt h.own), h.stp.trans (Stp.new hb v), h.far0, h.old⟩
theorem StI.from (h : StI X B w0 v0 xs v n W) {X' : Nat → Prop} (hX : ∀ k, X' k → (X k ∨ (v.ownBlock ≠ some k ∧ k < W.heap.size))) : StI X' B W v xs v n W :=
  ⟨h.own, Stp.refl _ _, fun g hg hx => by rcases hX g hx with h1 | h1; exact h.far g hg h1; exact h1.1 hg, fun k hx => by
    rcases hX k hx with h1 | h1
    · have := h.old k h1; have := h.stp.grow.size; omega
    · exact h1.2⟩
end

set_option maxRecDepth 100000 in
theorem nums_any (k : Int) (hk : 1 ≤ k ∧ k ≤ 7) (g : Nat) (w : World) : Calls Tryz.prog (numF k) #[.pointer (some ⟨g, 0, none⟩)] w fun e w' => ∃ A, e = .returned (.slice A (numN k) (numN k)) ∧ Below w.heap.size w w' ∧
    (∀ j, j < numN k → ∃ pb, A = some ⟨pb, 0, none⟩ ∧ w.heap.size ≤ pb ∧ pb < w'.heap.size ∧ w'.cell? ⟨pb, j, none⟩ = some (.pointer (some ⟨g, j + 1, none⟩))) := by
  have h3 : (k = 2 ∨ k = 3) ∨ k = 4 ∨ (k = 1 ∨ k = 5 ∨ k = 6 ∨ k = 7) := by omega
  rcases h3 with h | rfl | h
  · have e1 : numF k = 206 := by unfold numF; rw [if_pos h]
    have e2 : numN k = 1 := by unfold numN; rw [if_pos h]
    rw [e1, e2]
    go_enter Tryz.func206, Tryz.ntmps206
    go_wp2
    go_ret
    exact ⟨_, rfl, below_new w _, fun j hj => by obtain rfl : j = 0 := by omega
                                                 exact ⟨_, rfl, Nat.le_refl _, by simp, by simp⟩⟩
  · have e1 : numF 4 = 210 := rfl
    have e2 : numN 4 = 2 := rfl
    rw [e1, e2]
    go_enter Tryz.func210, Tryz.ntmps210
    go_wp2
    go_region
    all_goals
      go_wp2
      go_ret
      refine ⟨_, rfl, ((Below.refl w.heap.size w).drew).alloc (Nat.le_refl w.heap.size) _, fun j hj => ?_⟩
      have hj : j = 0 ∨ j = 1 := by omega
      rcases hj with rfl | rfl <;> exact ⟨_, rfl, Nat.le_refl _, by simp, by simp⟩
  · have e1 : numF k = 203 := by unfold numF; rw [if_neg (by omega), if_neg (by omega)]
    have e2 : numN k = 0 := by unfold numN; rw [if_neg (by omega), if_neg (by omega)]
    rw [e1, e2]
    go_enter Tryz.func203, Tryz.ntmps203
    go_wp2
    go_ret
    exact ⟨none, rfl, Below.refl _ _, fun j hj => by omega⟩

end Go.Proofs.YtbcadnkdehknoaaGreatDoor
