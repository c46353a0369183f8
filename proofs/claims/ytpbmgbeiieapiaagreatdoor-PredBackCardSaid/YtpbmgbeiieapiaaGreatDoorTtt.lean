/-
  Layer 4: what is taken, plainly: places go on; the document's number; how the document's take ends.
-/
import Derived.Test.YtpbmgbeiieapiaaGreatDoorTtn
import Derived.Test.YtpbmgbeiieapiaaGreatDoorRget
import Derived.Test.YtpbmgbeiieapiaaGreatDoorTex
namespace Go.Proofs.YtpbmgbeiieapiaaGreatDoor
open Go Go.RowKit
set_option linter.unusedVariables false

section
variable {l : List Nat}
theorem numsT_len (hb : ∀ x ∈ l, x < 256) : ∀ (j a : Nat) (vs : List Nat) (r : Nat), numsT l j a = some (vs, r) → vs.length = j ∧ a ≤ r ∧ (a ≤ l.length → r ≤ l.length) ∧ ∀ v ∈ vs, v < 18446744073709551616
  | 0, a, vs, r, h => by
    injection h with h
    injection h with h1 h2
    subst h1 h2
    exact ⟨rfl, Nat.le_refl _, id, by simp⟩
  | j + 1, a, vs, r, h => by
    obtain ⟨⟨ws, r1⟩, h1, h2⟩ := Option.bind_eq_some_iff.1 h
    obtain ⟨⟨v, r2⟩, h3, h4⟩ := Option.map_eq_some_iff.1 h2
    injection h4 with e1 e2
    obtain ⟨q1, q2, q3, q4⟩ := numsT_len hb j a ws r1 h1
    obtain ⟨p1, p2, p3⟩ := numT_lt hb h3
    subst e1 e2
    refine ⟨by simp [q1], by omega, fun _ => p3, fun x hx => ?_⟩
    rcases List.mem_append.1 hx with h | h
    · exact q4 x h
    · obtain rfl : x = v := by simpa using h
      exact p1
theorem cntT_len (hb : ∀ x ∈ l, x < 256) {k a N r : Nat} (h : cntT l k a = some (N, r)) : N < 18446744073709551616 ∧ a ≤ r ∧ (a ≤ l.length → r ≤ l.length) := by
  unfold cntT at h
  split at h
  · obtain ⟨h1, h2, h3⟩ := numT_lt hb h
    exact ⟨h1, by omega, fun _ => h3⟩
  · injection h with h
    injection h with h1 h2
    subst h1 h2
    exact ⟨by split <;> omega, Nat.le_refl _, id⟩
theorem manyT_len {f : Nat → Option (T × Nat)} (hf : ∀ a t r, f a = some (t, r) → a + t.count ≤ r ∧ r ≤ l.length) : ∀ (n a : Nat) (ts : List T) (r : Nat), manyT f n a = some (ts, r) → a + T.countL ts ≤ r ∧ (a ≤ l.length → r ≤ l.length)
  | 0, a, ts, r, h => by
    injection h with h
    injection h with h1 h2
    subst h1 h2
    exact ⟨by simp [T.countL], id⟩
  | n + 1, a, ts, r, h => by
    obtain ⟨⟨t, r1⟩, h1, h2⟩ := Option.bind_eq_some_iff.1 h
    obtain ⟨⟨ts', r2⟩, h3, h4⟩ := Option.map_eq_some_iff.1 h2
    injection h4 with e1 e2
    obtain ⟨q1, q2⟩ := hf a t r1 h1
    obtain ⟨p1, p2⟩ := manyT_len hf n r1 ts' r2 h3
    subst e1 e2
    show a + (t.count + T.countL ts') ≤ r2 ∧ (a ≤ l.length → r2 ≤ l.length)
    exact ⟨by omega, fun _ => p2 q2⟩
theorem tkS_len (hb : ∀ x ∈ l, x < 256) : ∀ (d a : Nat) (t : T) (r : Nat), tkS l d a = some (t, r) → a + t.count ≤ r ∧ r ≤ l.length
  | 0, a, t, r, h => by cases h
  | d + 1, a, t, r, h => by
    obtain ⟨kd, r0, hk⟩ : ∃ kd r0, kindT l a = (kd, r0) := ⟨_, _, rfl⟩
    by_cases h0 : kd = 0 ∨ 7 < kd
    · have : tkS l (d + 1) a = none := by
        show (if (kindT l a).1 = 0 ∨ 7 < (kindT l a).1 then none else _) = _
        rw [hk, if_pos h0]
      rw [this] at h; cases h
    · rw [tkS_succ hk (by omega) (by omega)] at h
      obtain ⟨⟨vs, r1⟩, h1, h2⟩ := Option.bind_eq_some_iff.1 h
      obtain ⟨⟨N, r2⟩, h3, h4⟩ := Option.bind_eq_some_iff.1 h2
      obtain ⟨⟨ts, r3⟩, h5, h6⟩ := Option.map_eq_some_iff.1 h4
      injection h6 with e1 e2
      have hr0 : r0 = a + 1 ∧ a < l.length := by
        unfold kindT at hk
        split at hk
        · injection hk with _ e
          exact ⟨e.symm, by assumption⟩
        · injection hk with e _
          omega
      obtain ⟨-, q2, q3, -⟩ := numsT_len hb _ _ _ _ h1
      obtain ⟨-, p2, p3⟩ := cntT_len hb h3
      obtain ⟨o1, o2⟩ := manyT_len (tkS_len hb d) N r2 ts r3 h5
      subst e1 e2
      show a + (1 + T.countL ts) ≤ r3 ∧ r3 ≤ l.length
      exact ⟨by omega, o2 (p3 (q3 (by omega)))⟩
end

/-- A place, or -1. -/
def posI : Option Nat → Int
  | some a => a
  | none => -1
/-- The number at a place that may be none. -/
def numO (l : List Nat) (o : Option Nat) : Nat × Option Nat := match o.bind (numT l) with
  | some (v, r) => (v, some r)
  | none => (0, none)

set_option maxRecDepth 100000 in
theorem rnumt_any (o : Option Nat) (B : Nat) (A : Option Addr) (n c : Nat) (l : List Nat) (w : World) (hr : Rd w B 1 A n (bs l)) (hb8 : ∀ x ∈ l, x < 256) (hn : n ≤ 100000) (hB : B ≤ w.heap.size) :
    Calls Tryz.prog 67 #[.slice A n c, .int .i64 (posI o)] w fun e w' => e = .returned (.tuple #[.int .u64 ((numO l o).1 : Nat), .int .i64 (posI (numO l o).2)]) ∧ Below w.heap.size w w' := by
  have G := rget_any B A n c l (posI o) w hr hb8 (by omega) hB
  cases o with
  | none =>
    have e : getS l (posI none) = (0, 0, 2) := by unfold getS; rw [if_pos (Or.inl (by decide))]
    rw [e] at G
    show Calls _ _ #[_, .int .i64 (-1)] w fun e w' => e = .returned (.tuple #[.int .u64 0, .int .i64 (-1)]) ∧ _
    have G : Calls Tryz.prog 82 #[.slice A n c, .int .i64 (-1)] w fun e w' => e = .returned (.tuple #[.int .u64 0, .int .i64 0, .int .i64 2]) ∧ Below w.heap.size w w' := G
    clear hr hb8 e
    go_enter Tryz.func67, Tryz.ntmps67
    go_wp2_with fail
    refine G.mono ?_
    rintro e w1 ⟨rfl, hb⟩
    go_wp2_with fail
    exact bodyPost_ret (v := .tuple #[.int .u64 0, .int .i64 (-1)]) (by simp [results, Tryz.results67, go_sem]) rfl ⟨rfl, hb⟩
  | some a =>
    obtain ⟨x, y, z, hx⟩ : ∃ x y z, getS l (a : Int) = (x, y, z) := ⟨_, _, _, rfl⟩
    have hnum : numT l a = if z = 0 then some (x, y) else none := by unfold numT; rw [hx]
    have ho : numO l (some a) = if z = 0 then (x, some y) else (0, none) := by
      unfold numO
      rw [Option.bind_some, hnum]
      by_cases hz : z = 0
      · rw [if_pos hz, if_pos hz]
      · rw [if_neg hz, if_neg hz]
    rw [show posI (some a) = (a : Int) from rfl, hx] at G
    have G : Calls Tryz.prog 82 #[.slice A n c, .int .i64 (a : Int)] w fun e w' => e = .returned (.tuple #[.int .u64 (x : Int), .int .i64 (y : Int), .int .i64 (z : Int)]) ∧ Below w.heap.size w w' := G
    show Calls _ _ #[_, .int .i64 (a : Int)] w _
    rw [ho]
    have h0 : decide ((a : Int) < 0) = false := by simp
    by_cases hz : z = 0
    · subst hz
      clear hr hb8 hx hnum ho
      have hzz : (((0 : Nat) : Int) != 0) = false := by decide
      show Calls _ _ _ w fun e w' => e = .returned (.tuple #[.int .u64 (x : Int), .int .i64 (y : Int)]) ∧ _
      go_enter Tryz.func67, Tryz.ntmps67
      go_wp2_with fail
      refine G.mono ?_
      rintro e w1 ⟨rfl, hb⟩
      go_wp2_with fail
      exact bodyPost_ret (v := .tuple #[.int .u64 (x : Int), .int .i64 (y : Int)]) (by simp [results, Tryz.results67, go_sem]) rfl ⟨rfl, hb⟩
    · rw [if_neg hz]
      have hzz : ((z : Int) != 0) = true := by simpa using hz
      clear hr hb8 hx hnum ho hz
      show Calls _ _ _ w fun e w' => e = .returned (.tuple #[.int .u64 0, .int .i64 (-1)]) ∧ _
      go_enter Tryz.func67, Tryz.ntmps67
      go_wp2_with fail
      refine G.mono ?_
      rintro e w1 ⟨rfl, hb⟩
      go_wp2_with fail
      exact bodyPost_ret (v := .tuple #[.int .u64 0, .int .i64 (-1)]) (by simp [results, Tryz.results67, go_sem]) rfl ⟨rfl, hb⟩

end Go.Proofs.YtpbmgbeiieapiaaGreatDoor
