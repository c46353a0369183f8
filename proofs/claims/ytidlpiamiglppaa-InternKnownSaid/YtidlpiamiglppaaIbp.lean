/-
  Layer 7: plain facts for InternBack: names that are others, one by one. No program is named here.
-/
import Derived.Test.YtidlpiamiglppaaIpl
import Derived.Laws.BitsAllLaws
import Derived.Laws.Bits64
namespace Go.Proofs.Ytidlpiamiglppaa
open Go
set_option linter.unusedVariables false

/-- A name, exclusively or'ed, and added to. -/
def turnN (b a v : Nat) : Nat := ((v ^^^ b) + a) % 18446744073709551616
def turnP (b a : Nat) (p : PP) : PP := (turnN b a p.1, 0)
theorem turnN_lt (b a v : Nat) : turnN b a v < 18446744073709551616 := Nat.mod_lt _ (by decide)
theorem turnN_inj {b a v v' : Nat} (hb : b < 18446744073709551616) (hv : v < 18446744073709551616) (hv' : v' < 18446744073709551616) (h : turnN b a v = turnN b a v') : v = v' := by
  have h1 : v ^^^ b < 18446744073709551616 := Nat.xor_lt_two_pow (n := 64) hv hb
  have h2 : v' ^^^ b < 18446744073709551616 := Nat.xor_lt_two_pow (n := 64) hv' hb
  unfold turnN at h
  have h3 : v ^^^ b = v' ^^^ b := by omega
  have h4 := congrArg (· ^^^ b) h3
  simpa [Nat.xor_assoc] using h4
theorem turnP_inj {b a : Nat} (hb : b < 18446744073709551616) (p q : PP) (hp : p.1 < 18446744073709551616 ∧ p.2 = 0) (hq : q.1 < 18446744073709551616 ∧ q.2 = 0) (h : turnP b a p = turnP b a q) : p = q := by
  have h1 := congrArg Prod.fst h
  exact Prod.ext (turnN_inj hb hp.1 hq.1 h1) (by rw [hp.2, hq.2])
theorem turnP_nm (b a : Nat) (p : PP) : (turnP b a p).1 < 18446744073709551616 ∧ (turnP b a p).2 = 0 := ⟨turnN_lt _ _ _, rfl⟩

theorem turn_xor (b v : Nat) (hb : b < 18446744073709551616) (hv : v < 18446744073709551616) : bits .xor .u64 (v : Int) (b : Int) = ((v ^^^ b : Nat) : Int) := u64_xor_nat v b hv hb
theorem turn_add (b a v : Nat) : IntKind.u64.wrap (((v ^^^ b : Nat) : Int) + (a : Int)) = ((turnN b a v : Nat) : Int) := by
  rw [IntKind.wrap_u64]
  unfold turnN
  omega

section
variable {f : PP → PP} {Q : PP → Prop}
theorem idx_map (hi : ∀ p q, Q p → Q q → f p = f q → p = q) : ∀ {l : List PP}, (∀ q ∈ l, Q q) → ∀ {p : PP}, Q p → (l.map f).idxOf (f p) = l.idxOf p := by
  intro l
  induction l with
  | nil => intro _ p _; rfl
  | cons a r ih =>
    intro hl p hp
    rw [List.map_cons, List.idxOf_cons, List.idxOf_cons]
    by_cases e : a = p
    · subst e; simp
    · have e2 : f a ≠ f p := fun h => e (hi a p (hl a (by simp)) hp h)
      have b1 : (f a == f p) = false := by simpa using e2
      have b2 : (a == p) = false := by simpa using e
      rw [b1, b2, ih (fun q hq => hl q (by simp [hq])) hp]
theorem mem_map_iff (hi : ∀ p q, Q p → Q q → f p = f q → p = q) {l : List PP} (hl : ∀ q ∈ l, Q q) {p : PP} (hp : Q p) : f p ∈ l.map f ↔ p ∈ l := by
  constructor
  · intro h
    obtain ⟨q, hq, e⟩ := List.mem_map.1 h
    rw [← hi q p (hl q hq) hp e]; exact hq
  · exact fun h => List.mem_map_of_mem h
theorem addP_map (hi : ∀ p q, Q p → Q q → f p = f q → p = q) {l : List PP} (hl : ∀ q ∈ l, Q q) {p : PP} (hp : Q p) : addP (l.map f) (f p) = (addP l p).map f := by
  unfold addP
  by_cases h : p ∈ l
  · rw [if_pos h, if_pos ((mem_map_iff hi hl hp).2 h)]
  · rw [if_neg h, if_neg (fun h2 => h ((mem_map_iff hi hl hp).1 h2)), List.map_append]; rfl
theorem addL_map (hi : ∀ p q, Q p → Q q → f p = f q → p = q) : ∀ {xs l : List PP}, (∀ q ∈ l, Q q) → (∀ q ∈ xs, Q q) → addL (l.map f) (xs.map f) = (addL l xs).map f := by
  intro xs
  induction xs with
  | nil => intro l _ _; rfl
  | cons a r ih =>
    intro l hl hx
    show addL (addP (l.map f) (f a)) (r.map f) = (addL (addP l a) r).map f
    rw [addP_map hi hl (hx a (by simp)), ih (addP_all hl (hx a (by simp))) fun q hq => hx q (by simp [hq])]
theorem lastP_map (hi : ∀ p q, Q p → Q q → f p = f q → p = q) {xs l : List PP} (hl : ∀ q ∈ l, Q q) (hx : ∀ q ∈ xs, Q q) : lastP (l.map f) (xs.map f) = lastP l xs := by
  unfold lastP
  rw [List.getLast?_map]
  cases h : xs.getLast? with
  | none => rfl
  | some p =>
    have hp : p ∈ xs := List.mem_of_getLast? h
    simp only [Option.map_some]
    rw [addL_map hi hl hx, idx_map hi (addL_all hl hx) (hx p hp)]
end
theorem at0_pre {l m : List PP} (h : l <+: m) {k : Nat} (hk : k < l.length) : at0 m k = at0 l k := by
  obtain ⟨r, rfl⟩ := h
  unfold at0
  rw [List.getD_eq_getElem?_getD, List.getD_eq_getElem?_getD, List.getElem?_append_left hk]
theorem at0_map {f : PP → PP} {l : List PP} {k : Nat} (hk : k < l.length) : at0 (l.map f) k = f (at0 l k) := by
  rw [at0_lt hk, at0_lt (by simpa using hk)]; simp

end Go.Proofs.Ytidlpiamiglppaa
