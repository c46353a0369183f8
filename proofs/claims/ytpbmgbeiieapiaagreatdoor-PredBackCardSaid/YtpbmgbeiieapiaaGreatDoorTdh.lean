/-
  Layer 4: the head of a node in the document's take, plainly.
-/
import Derived.Test.YtpbmgbeiieapiaaGreatDoorTtt
namespace Go.Proofs.YtpbmgbeiieapiaaGreatDoor
open Go Go.RowKit
set_option linter.unusedVariables false

def F1 (l : List Nat) (kd s a : Nat) (o : Option Nat) : Prop := if 2 ≤ kd ∧ kd ≤ 4 then (a, o) = numO l (some (s + 1)) else a = 0 ∧ o = some (s + 1)
def F2 (l : List Nat) (kd b : Nat) (o o2 : Option Nat) : Prop := if kd = 4 then (b, o2) = numO l o else b = 0 ∧ o2 = o
def F4 (l : List Nat) (kd N : Nat) (o2 o4 : Option Nat) : Prop := if 6 ≤ kd then (N, o4) = numO l o2 else N = (if kd = 5 then 1 else 0) ∧ o4 = o2

theorem numO_some (l : List Nat) (a : Nat) : numO l (some a) = match numT l a with | some (v, r) => (v, some r) | none => (0, none) := rfl

theorem head_any {l : List Nat} (hb8 : ∀ x ∈ l, x < 256) {d s kd a b N : Nat} {o o2 o4 : Option Nat} (hs : s < l.length) (hk : kindT l s = (kd, s + 1)) (h1 : 1 ≤ kd) (h7 : kd ≤ 7) (f1 : F1 l kd s a o) (f2 : F2 l kd b o o2) (f4 : F4 l kd N o2 o4) :
    (∀ r, o4 = some r → s + 1 ≤ r ∧ r ≤ l.length ∧ tkS l (d + 1) s = (manyT (tkS l d) N r).map fun x => (.node kd a b x.1, x.2)) ∧ (o4 = none → tkS l (d + 1) s = none) ∧ a < 18446744073709551616 ∧ b < 18446744073709551616 ∧ N < 18446744073709551616 := by
  have hu := tkS_succ (d := d) hk (by omega) h7
  have key : ∀ {x : Nat} {vr : Nat × Nat}, numT l x = some vr → vr.1 < 18446744073709551616 ∧ x + 1 ≤ vr.2 ∧ vr.2 ≤ l.length := fun h => numT_lt hb8 (v := _) (r := _) h
  have hkc : kd = 1 ∨ kd = 2 ∨ kd = 3 ∨ kd = 4 ∨ kd = 5 ∨ kd = 6 ∨ kd = 7 := by omega
  unfold F1 at f1
  unfold F2 at f2
  unfold F4 at f4
  cases hn1 : numT l (s + 1) with
  | none =>
    have HK := Lib_hid hs
    clear key
    rcases hkc with rfl | rfl | rfl | rfl | rfl | rfl | rfl <;> simp [numO, hn1, numsT, numN, cntT] at f1 f2 f4 hu <;> simp_all <;> (have := HK.out; omega)
  | some vr =>
    obtain ⟨v, r⟩ := vr
    obtain ⟨k1, k2, k3⟩ := key hn1
    simp only at k1 k2 k3
    cases hn2 : numT l r with
    | none =>
      have HK := Lib_hid k2
      clear key
      rcases hkc with rfl | rfl | rfl | rfl | rfl | rfl | rfl <;> simp [numO, hn1, hn2, numsT, numN, cntT] at f1 f2 f4 hu <;> simp_all <;> (have := HK.out; omega)
    | some vr2 =>
      obtain ⟨v2, r2⟩ := vr2
      obtain ⟨k4, k5, k6⟩ := key hn2
      simp only at k4 k5 k6
      have HK := Lib_hid (And.intro k2 k5)
      clear key
      rcases hkc with rfl | rfl | rfl | rfl | rfl | rfl | rfl <;> simp [numO, hn1, hn2, numsT, numN, cntT] at f1 f2 f4 hu <;> simp_all <;> (have := HK.out; omega)

end Go.Proofs.YtpbmgbeiieapiaaGreatDoor
