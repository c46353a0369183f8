/-
  The statements' SameInts, same and few.
-/
import Derived.Test.YtidlpiamiglppaaIrg
namespace Go.Proofs.Ytidlpiamiglppaa
open Go Go.RowKit
set_option linter.unusedVariables false

/-- Two rows of numbers that are one. -/
theorem sameI_any (B B' : Nat) (A A' : Option Addr) (n n' c c' : Nat) (l : List Nat) (w : World) (h : Rd w B 1 A n (ic l)) (h' : Rd w B' 1 A' n' (ic l)) (hn : n ≤ 9223372036854775807) :
    Calls Try.prog 17 #[.slice A n c, .slice A' n' c'] w fun e w' => e = .returned (.bool true) ∧ ∃ q, w' = w.drewN q := by
  have hl := rdi_count h
  have hl' := rdi_count h'
  obtain rfl : n = n' := by omega
  have HI := Lib_hid (fun (k : Nat) (hk : k < n) => i_at h hk)
  have HJ := Lib_hid (fun (k : Nat) (hk : k < n) => i_at h' hk)
  clear h h'
  go_enter Try.func17, Try.ntmps17
  go_wp2
  go_loopw [5] (fun i wr => ∃ k q : Nat, i = .int .i64 k ∧ k ≤ n ∧ wr = w.drewN q) (fun i _ => n - (intOf i).toNat)
  case atStart => exact ⟨0, 0, rfl, Nat.zero_le _, rfl⟩
  case round =>
    obtain ⟨k, q, rfl, hk, rfl⟩ := hrel
    by_cases hlt : k < n
    · obtain ⟨ad, rfl, _, c1⟩ := HI.out k hlt
      obtain ⟨ad', rfl, _, c2⟩ := HJ.out k hlt
      clear hl hl'
      generalize l.getD k 0 = x at *
      go_wp2
      go_quiet (fail)
      go_wp2
      go_roundw
      case rel => exact ⟨k + 1, q + nq, by go_num, by omega, rfl⟩
      case measure => simp [intOf]; omega
    · obtain rfl : k = n := by omega
      go_wp2
      go_ret
      exact ⟨rfl, q, rfl⟩

/-- Names that are the row's. -/
theorem same_any (B B' : Nat) (A A' : Option Addr) (n n' c c' : Nat) (l : List PP) (w : World) (h : Rd w B 1 A n (uc l)) (h' : Rd w B' 2 A' n' (pc l)) (hz : Zs l) (hn : n ≤ 9223372036854775807) :
    Calls Try.prog 16 #[.slice A n c, .slice A' n' c'] w fun e w' => e = .returned (.bool true) ∧ ∃ q, w' = w.drewN q := by
  have hl := rdu_count h
  have hl' := rdp_count h'
  obtain rfl : n = n' := by omega
  have HI := Lib_hid (fun (k : Nat) (hk : k < n) => u_at h hk)
  have HJ := Lib_hid (fun (k : Nat) (hk : k < n) => p_at h' hk)
  have HZ : Hid (∀ k, k < n → (at0 l k).2 = 0) := fun k hk => hz.at (by omega)
  clear h h' hz
  go_enter Try.func16, Try.ntmps16
  go_wp2
  go_loopw [5] (fun i wr => ∃ k q : Nat, i = .int .i64 k ∧ k ≤ n ∧ wr = w.drewN q) (fun i _ => n - (intOf i).toNat)
  case atStart => exact ⟨0, 0, rfl, Nat.zero_le _, rfl⟩
  case round =>
    obtain ⟨k, q, rfl, hk, rfl⟩ := hrel
    by_cases hlt : k < n
    · obtain ⟨ad, rfl, _, c1⟩ := HI.out k hlt
      obtain ⟨b, off, rfl, _, c2, c3⟩ := HJ.out k hlt
      rw [HZ.out k hlt] at c3
      clear hl hl'
      generalize (at0 l k).1 = x at *
      have d1 : ((x : Int) != (x : Int)) = false := by simp
      go_wp2
      go_quiet (fail)
      go_wp2
      go_roundw
      case rel => exact ⟨k + 1, q + nq, by go_num, by omega, rfl⟩
      case measure => simp [intOf]; omega
    · obtain rfl : k = n := by omega
      go_wp2
      go_ret
      exact ⟨rfl, q, rfl⟩

/-- The slices vs read as the rows of names ls. -/
structure Nws (w : World) (B : Nat) (vs : List Value) (ls : List (List PP)) : Prop where
  len : vs.length = ls.length
  row : ∀ j, j < ls.length → ∃ A n c, vs[j]? = some (.slice A n c) ∧ Rd w B 1 A n (uc (ls.getD j [])) ∧ (Us (ls.getD j []) ∧ Zs (ls.getD j [])) ∧ n ≤ c ∧ c ≤ 9223372036854775807
theorem Nws.below {w w' : World} {B : Nat} {vs : List Value} {ls : List (List PP)} (h : Nws w B vs ls) (hb : Below B w w') : Nws w' B vs ls :=
  ⟨h.len, fun j hj => by obtain ⟨A, n, c, h1, h2, h3⟩ := h.row j hj; exact ⟨A, n, c, h1, h2.below hb, h3⟩⟩
theorem Nws.more {w : World} {B B' : Nat} {vs : List Value} {ls : List (List PP)} (h : Nws w B vs ls) (hB : B ≤ B') : Nws w B' vs ls :=
  ⟨h.len, fun j hj => by obtain ⟨A, n, c, h1, h2, h3⟩ := h.row j hj; exact ⟨A, n, c, h1, h2.more hB, h3⟩⟩
theorem Nws.nil (w : World) (B : Nat) : Nws w B [] [] := ⟨rfl, fun j hj => by simp at hj⟩
/-- A cell of the slice of slices, and what it reads as. -/
theorem Nws.at {w : World} {B B' n : Nat} {A : Option Addr} {vs : List Value} {ls : List (List PP)} (h : Nws w B vs ls) (hr : Rd w B' 1 A n vs) {k : Nat} (hk : k < n) :
    ∃ ad A' n' c', A = some ad ∧ ad.block < B' ∧ w.cell? (ad.add k) = some (.slice A' n' c') ∧ vs[k]? = some (.slice A' n' c') ∧ Rd w B 1 A' n' (uc (ls.getD k [])) ∧ Us (ls.getD k []) ∧ Zs (ls.getD k []) ∧ n' ≤ c' ∧ c' ≤ 9223372036854775807 := by
  obtain ⟨ad, e, hb, hc⟩ := hr.lies (by omega)
  have hl := hr.len
  obtain ⟨A', n', c', h1, h2, h3, h4, h5⟩ := h.row k (by have := h.len; omega)
  exact ⟨ad, A', n', c', e, hb, hc k _ h1, h1, h2, h3.1, h3.2, h4, h5⟩
theorem Nws.count {w : World} {B B' n : Nat} {A : Option Addr} {vs : List Value} {ls : List (List PP)} (h : Nws w B vs ls) (hr : Rd w B' 1 A n vs) : ls.length = n := by
  have := hr.len; have := h.len; omega

def NFew (vs : List Value) (i : Nat) : Prop := ∀ (j : Nat) (A : Option Addr) (n c : Nat), j < i → vs[j]? = some (.slice A n c) → n ≤ 30
theorem NFew.zero (vs : List Value) : NFew vs 0 := fun j A n c h => by omega
theorem NFew.succ {vs : List Value} {i : Nat} {A : Option Addr} {n c : Nat} (h : NFew vs i) (ha : vs[i]? = some (.slice A n c)) (h1 : (n : Int) ≤ 30) : NFew vs (i + 1) := fun j A' n' c' hj hx => by
  rcases Nat.lt_or_ge j i with h3 | h3
  · exact h j A' n' c' h3 hx
  · obtain rfl : j = i := by omega
    rw [ha] at hx
    simp only [Option.some.injEq, Value.slice.injEq] at hx
    omega
def NFewSays (vs : List Value) (n : Nat) (w : World) (e : Ending) (w' : World) : Prop :=
  ∃ b, e = .returned (.bool b) ∧ w = w' ∧ (b = true → n ≤ 12 ∧ NFew vs n)

set_option maxRecDepth 100000 in
set_option maxHeartbeats 1600000 in
theorem few_any (B B' n c : Nat) (A : Option Addr) (vs : List Value) (ls : List (List PP)) (w : World) (h : Rd w B' 1 A n vs) (hw : Nws w B vs ls) (hn : n ≤ 9223372036854775807) :
    Calls Try.prog 8 #[.slice A n c] w (NFewSays vs n w) := by
  have HI := Lib_hid (fun (k : Nat) (hk : k < n) => hw.at h hk)
  clear h hw
  go_enter Try.func8, Try.ntmps8
  go_wp2
  go_loop [3] (fun x => ∃ i : Nat, x = .int .i64 i ∧ i ≤ n ∧ i ≤ 13 ∧ NFew vs i) (fun x => 13 - (intOf x).toNat)
  case atStart => exact ⟨0, rfl, by omega, by omega, NFew.zero vs⟩
  case round =>
    obtain ⟨i, rfl, hi, hi2, hf⟩ := hrel
    by_cases hlt : i < n ∧ i < 13
    · obtain ⟨h1, h2⟩ := hlt
      obtain ⟨ad, A', n', c', rfl, _, c1, e, _⟩ := HI.out i h1
      by_cases hb : (n' : Int) ≤ 30
      · have hf' := hf.succ e hb
        clear hf e
        go_wp2
        go_round
        case rel => exact ⟨i + 1, by go_num, by omega, by omega, hf'⟩
        case measure => simp [intOf]; omega
      · clear e
        go_wp2
        go_ret
        exact ⟨false, rfl, rfl, fun h => by cases h⟩
    · by_cases h1 : i < n
      · have h2 : i = 13 := by omega
        have h3 : ¬ ((n : Int) ≤ 12) := by omega
        subst h2
        go_wp2
        go_ret
        exact ⟨_, rfl, rfl, fun h => by first | (exfalso; simp at h; done) | (simp at h; omega)⟩
      · obtain rfl : i = n := by omega
        go_wp2
        go_ret
        refine ⟨_, rfl, rfl, fun h => ⟨?_, hf⟩⟩
        simp at h; omega

end Go.Proofs.Ytidlpiamiglppaa
