/-
  Layer 4: what a text is read as, plainly. No program is named here, but the words.
-/
import Derived.Test.YtiijdacnfhiagaaGreatDoorTkr
namespace Go.Proofs.YtiijdacnfhiagaaGreatDoor
open Go Go.RowKit
set_option linter.unusedVariables false

/-- The first j numbers of a node, with marks between. -/
def numsS : Nat → List UInt8 → Option (List Nat × List UInt8)
  | 0, s => some ([], s)
  | j + 1, s => (numsS j s).bind fun (vs, r) =>
    if j = 0 then (numS r).map fun (v, r') => (vs ++ [v], r')
    else if Lib.hasPrefix r [61] then (numS (Lib.trimPrefix r [61])).map fun (v, r') => (vs ++ [v], r') else none

section
variable (f : List UInt8 → Option (T × List UInt8))
/-- Behind a part: a mark and a further part, or the bracket. -/
def moreS : Nat → List UInt8 → Option (List T × List UInt8)
  | 0, _ => none
  | n + 1, r => if Lib.hasPrefix r [44] then (f (Lib.trimPrefix r [44])).bind fun (t, r') => (moreS n r').map fun (ts, r2) => (t :: ts, r2)
    else if Lib.hasPrefix r [41] then some ([], Lib.trimPrefix r [41]) else none
/-- A list of parts in brackets. -/
def listS (s : List UInt8) : Option (List T × List UInt8) :=
  if Lib.hasPrefix s [40] then
    if Lib.hasPrefix (Lib.trimPrefix s [40]) [41] then some ([], Lib.trimPrefix (Lib.trimPrefix s [40]) [41])
    else (f (Lib.trimPrefix s [40])).bind fun (t, r') => (moreS f (r'.length + 1) r').map fun (ts, r2) => (t :: ts, r2)
  else none
def partsS (k : Nat) (r : List UInt8) : Option (List T × List UInt8) :=
  if k = 5 then (f r).map fun (t, r') => ([t], r') else if 6 ≤ k then listS f r else some ([], r)
end
/-- The tree that a text begins with, of at most so many levels, and the rest. -/
def rdS : Nat → List UInt8 → Option (T × List UInt8)
  | 0, _ => none
  | d + 1, s => if (kindS s).1 = 0 then none else
    (numsS (numN (kindS s).1) (kindS s).2).bind fun (vs, r1) => (partsS (rdS d) (kindS s).1 r1).map fun (ts, r2) => (.node (kindS s).1 (vs.getD 0 0) (vs.getD 1 0) ts, r2)

theorem trim_le (s x : List UInt8) : (Lib.trimPrefix s x).length ≤ s.length := by
  unfold Lib.trimPrefix
  split
  · rw [List.length_drop]; omega
  · exact Nat.le_refl _
theorem trim_lt {s : List UInt8} {c : UInt8} (h : Lib.hasPrefix s [c] = true) : (Lib.trimPrefix s [c]).length < s.length := by
  have hl : 1 ≤ s.length := by
    unfold Lib.hasPrefix at h
    exact (List.isPrefixOf_iff_prefix.1 h).length_le
  unfold Lib.trimPrefix
  rw [if_pos h, List.length_drop]
  simp
  omega
theorem numsS_len : ∀ (j : Nat) (s : List UInt8) (vs : List Nat) (r : List UInt8), numsS j s = some (vs, r) → vs.length = j ∧ r.length ≤ s.length ∧ ∀ v ∈ vs, v < 18446744073709551616
  | 0, s, vs, r, h => by
    unfold numsS at h
    injection h with h
    injection h with h1 h2
    subst h1 h2
    simp
  | j + 1, s, vs, r, h => by
    unfold numsS at h
    obtain ⟨⟨vs0, r0⟩, h0, h⟩ := Option.bind_eq_some_iff.1 h
    obtain ⟨i1, i2, i3⟩ := numsS_len j s vs0 r0 h0
    have key : ∀ q, q.length ≤ r0.length → ((numS q).map fun (x : Nat × List UInt8) => (vs0 ++ [x.1], x.2)) = some (vs, r) → vs.length = j + 1 ∧ r.length ≤ s.length ∧ ∀ v ∈ vs, v < 18446744073709551616 := by
      intro q hq hm
      obtain ⟨⟨v, r'⟩, hv, he⟩ := Option.map_eq_some_iff.1 hm
      injection he with h1 h2
      subst h1 h2
      obtain ⟨l1, l2⟩ := numS_lt hv
      refine ⟨by simp [i1], by simp only; omega, fun x hx => ?_⟩
      rcases List.mem_append.1 hx with hx | hx
      · exact i3 x hx
      · obtain rfl : x = v := by simpa using hx
        exact l1
    simp only at h
    split at h
    · exact key r0 (Nat.le_refl _) h
    · split at h
      · exact key _ (trim_le _ _) h
      · cases h
theorem moreS_len {f : List UInt8 → Option (T × List UInt8)} (hf : ∀ s t r, f s = some (t, r) → r.length < s.length) : ∀ (n : Nat) (s : List UInt8) (ts : List T) (r : List UInt8), moreS f n s = some (ts, r) → r.length < s.length
  | 0, s, ts, r, h => by cases h
  | n + 1, s, ts, r, h => by
    unfold moreS at h
    split at h
    · rename_i h44
      obtain ⟨⟨t, r'⟩, h1, h⟩ := Option.bind_eq_some_iff.1 h
      obtain ⟨⟨ts', r2⟩, h2, he⟩ := Option.map_eq_some_iff.1 h
      injection he with e1 e2
      subst e1 e2
      have := hf _ _ _ h1
      have := moreS_len hf n r' ts' r2 h2
      have := trim_lt h44
      simp only at *
      omega
    · split at h
      · rename_i h41
        injection h with h
        injection h with e1 e2
        subst e1 e2
        exact trim_lt h41
      · cases h
/-- More fuel than there are bytes changes nothing. -/
theorem moreS_fuel {f : List UInt8 → Option (T × List UInt8)} (hf : ∀ s t r, f s = some (t, r) → r.length < s.length) : ∀ (n m : Nat) (s : List UInt8), s.length + 1 ≤ n → s.length + 1 ≤ m → moreS f n s = moreS f m s
  | 0, m, s, h, _ => by omega
  | n + 1, 0, s, _, h => by omega
  | n + 1, m + 1, s, hn, hm => by
    unfold moreS
    split
    · rename_i h44
      have := trim_lt h44
      cases hfs : f (Lib.trimPrefix s [44]) with
      | none => rfl
      | some tr =>
        obtain ⟨t, r⟩ := tr
        have := hf _ _ _ hfs
        simp only [Option.bind_some]
        rw [moreS_fuel hf n m r (by omega) (by omega)]
    · rfl
theorem listS_len {f : List UInt8 → Option (T × List UInt8)} (hf : ∀ s t r, f s = some (t, r) → r.length < s.length) {s : List UInt8} {ts : List T} {r : List UInt8} (h : listS f s = some (ts, r)) : r.length < s.length := by
  unfold listS at h
  split at h
  · rename_i h40
    have := trim_lt h40
    split at h
    · rename_i h41
      injection h with h
      injection h with e1 e2
      subst e1 e2
      have := trim_lt h41
      omega
    · obtain ⟨⟨t, r'⟩, h1, h⟩ := Option.bind_eq_some_iff.1 h
      obtain ⟨⟨ts', r2⟩, h2, he⟩ := Option.map_eq_some_iff.1 h
      injection he with e1 e2
      subst e1 e2
      have := hf _ _ _ h1
      have := moreS_len hf _ _ _ _ h2
      simp only at *
      omega
  · cases h
theorem rdS_len : ∀ (d : Nat) (s : List UInt8) (t : T) (r : List UInt8), rdS d s = some (t, r) → r.length < s.length
  | 0, s, t, r, h => by cases h
  | d + 1, s, t, r, h => by
    unfold rdS at h
    split at h
    · cases h
    · rename_i hk
      obtain ⟨⟨vs, r1⟩, h1, h⟩ := Option.bind_eq_some_iff.1 h
      obtain ⟨⟨ts, r2⟩, h2, he⟩ := Option.map_eq_some_iff.1 h
      injection he with e1 e2
      subst e1 e2
      have h3 := (numsS_len _ _ _ _ h1).2.1
      have h4 := (kindS_le s).2.2 hk
      unfold partsS at h2
      split at h2
      · obtain ⟨⟨t', r'⟩, h5, he⟩ := Option.map_eq_some_iff.1 h2
        injection he with e1 e2
        subst e2
        have := rdS_len d _ _ _ h5
        simp only at *
        omega
      · split at h2
        · have := listS_len (rdS_len d) h2
          simp only at *
          omega
        · injection h2 with h2
          injection h2 with e1 e2
          subst e2
          simp only at *
          omega

end Go.Proofs.YtiijdacnfhiagaaGreatDoor
