/-
  Layer 4: a tree's text, plainly.
-/
import Derived.Test.YtbcadnkdehknoaaGreatDoorTkr
import Derived.Lib.Join
import Derived.Lib.ItoaLen
namespace Go.Proofs.YtbcadnkdehknoaaGreatDoor
open Go Go.RowKit
set_option linter.unusedVariables false

mutual
/-- The text of a tree that is right. -/
def T.tell : T → List UInt8
  | .node k a b ps => wordL k.toNat ++ Lib.join ((numsL k a b).map Lib.decDigits) [61] ++ (if 6 ≤ k then [40] ++ Lib.join (T.tellL ps) [44] ++ [41] else Lib.join (T.tellL ps) [])
def T.tellL : List T → List (List UInt8)
  | [] => []
  | p :: ps => p.tell :: T.tellL ps
end
theorem tellL_append : ∀ (xs ys : List T), T.tellL (xs ++ ys) = T.tellL xs ++ T.tellL ys
  | [], ys => by simp [T.tellL]
  | x :: xs, ys => by rw [List.cons_append, T.tellL, T.tellL, tellL_append xs ys, List.cons_append]
theorem tellL_length : ∀ xs : List T, (T.tellL xs).length = xs.length
  | [] => by simp [T.tellL]
  | x :: xs => by rw [T.tellL, List.length_cons, List.length_cons, tellL_length xs]
theorem tellL_take {ps : List V} {i : Nat} {p : V} (h : ps[i]? = some p) : T.tellL (V.absL (ps.take (i + 1))) = T.tellL (V.absL (ps.take i)) ++ [p.abs.tell] := by
  rw [absL_take h, tellL_append]; simp [T.tellL]
theorem join_snoc (xs : List (List UInt8)) (x sep : List UInt8) : Lib.join (xs ++ [x]) sep = Lib.join xs sep ++ (if xs = [] then [] else sep) ++ x := by
  cases xs with
  | nil => simp [Lib.join_one, Lib.join_nil]
  | cons y r =>
    rw [List.cons_append, Lib.join_cons, Lib.join_cons, if_neg (by simp)]
    simp [Lib.joinTail, List.append_assoc]
theorem join_len (xs : List (List UInt8)) (sep : List UInt8) : (Lib.join xs sep).length ≤ Lib.lens xs + sep.length * xs.length := by
  cases xs with
  | nil => simp [Lib.join_nil]
  | cons x r =>
    rw [Lib.join_length, List.length_cons, Nat.mul_succ]
    omega
theorem wordL_len (n : Nat) : (wordL n).length ≤ 3 := by
  unfold wordL wordA
  repeat (first | split | decide)
theorem lens_nums {l : List Nat} (h : ∀ x ∈ l, x < 18446744073709551616) : Lib.lens (l.map Lib.decDigits) ≤ 20 * l.length := by
  induction l with
  | nil => simp [Lib.lens]
  | cons x l ih =>
    have h1 := Lib.nDigits_le20 x (h x (by simp))
    have h2 := ih fun y hy => h y (by simp [hy])
    rw [← Lib.decDigits_length] at h1
    simp only [Lib.lens, List.map_cons, List.sum_cons, List.length_cons] at h2 ⊢
    omega
theorem tellN_len (k : Int) {a b : Nat} (ha : a < 18446744073709551616) (hb : b < 18446744073709551616) : (Lib.join ((numsL k a b).map Lib.decDigits) [61]).length ≤ 42 := by
  have h1 := join_len ((numsL k a b).map Lib.decDigits) [61]
  have h2 := lens_nums (nums_in (k := k) ha hb)
  have h3 := numN_le k
  rw [nums_len] at h2
  rw [List.length_map, nums_len] at h1
  simp at h1
  omega
theorem tells_sum {w : World} {lo hi : Nat} (l : List V) (h : ∀ p ∈ l, p.abs.tell.length + 1 ≤ 50 * p.abs.count) : Lib.lens (T.tellL (V.absL l)) + l.length ≤ 50 * T.countL (V.absL l) := by
  induction l with
  | nil => simp [V.absL, T.tellL, Lib.lens, T.countL]
  | cons p l ih2 =>
    have h1 := h p (by simp)
    have h2 := ih2 fun q hq => h q (by simp [hq])
    simp only [Lib.lens] at h2
    simp only [V.absL, T.tellL, T.countL, Lib.lens, List.map_cons, List.sum_cons, List.length_cons]
    omega
theorem tells_join {l : List V} {sep : List UInt8} (hs : sep.length ≤ 1) (h : Lib.lens (T.tellL (V.absL l)) + l.length ≤ 50 * T.countL (V.absL l)) : (Lib.join (T.tellL (V.absL l)) sep).length ≤ 50 * T.countL (V.absL l) := by
  have h1 := join_len (T.tellL (V.absL l)) sep
  rw [tellL_length, absL_length] at h1
  have h2 := Nat.mul_le_mul_right l.length hs
  omega
/-- How long a text is. -/
theorem tell_len {w : World} {lo hi : Nat} : ∀ v : V, Lies w lo hi v → v.abs.tell.length + 1 ≤ 50 * v.abs.count := by
  refine V.ind fun k a b A c ps ih hL => ?_
  obtain ⟨hlen, hcap', hk, ha, hb⟩ := hL.caps
  rw [V.count_node, V.abs, T.tell]
  have h1 := tells_sum (w := w) (lo := lo) (hi := hi) ps fun p hp => ih p hp (hL.part hp)
  have h2 := tells_join (l := ps) (sep := [44]) (by decide) h1
  have h3 := tells_join (l := ps) (sep := []) (by decide) h1
  have h4 := wordL_len k.toNat
  have h5 := tellN_len k ha hb
  split <;> simp only [List.length_append, List.length_cons, List.length_nil] <;> omega
theorem tells_len {w : World} {lo hi : Nat} {k : Int} {a b c : Nat} {A : Option Addr} {ps : List V} (hL : Lies w lo hi (.node k a b A c ps)) {sep : List UInt8} (hs : sep.length ≤ 1) : (Lib.join (T.tellL (V.absL ps)) sep).length ≤ 50 * T.countL (V.absL ps) :=
  tells_join hs (tells_sum (w := w) (lo := lo) (hi := hi) ps fun p hp => tell_len p (hL.part hp))

end Go.Proofs.YtbcadnkdehknoaaGreatDoor
