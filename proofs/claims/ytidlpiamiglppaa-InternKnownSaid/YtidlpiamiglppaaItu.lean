/-
  Layer 7: tables of names: find, name, put, add of the program.
-/
import Derived.Test.YtidlpiamiglppaaIta
import Derived.Test.YtidlpiamiglppaaIrg
namespace Go.Proofs.Ytidlpiamiglppaa
open Go Go.RowKit Go.Maps
set_option linter.unusedVariables false

/-- A name: below 2^64, and no second part. -/
def NmU (p : PP) : Prop := p.1 < 18446744073709551616 ∧ p.2 = 0
/-- Tables of names. -/
def kU : Sk := { K := 23, M := 27, kv := fun p => .int .u64 (p.1 : Int), Q := NmU, size := 1, E := 23, T := 31, cs := uc }

theorem wf_u64 {x : Nat} (h : x < 18446744073709551616) : (Lit.int .u64 (x : Int)).wf = true := by
  simp [Lit.wf, IntKind.min, IntKind.max, IntKind.bits, IntKind.signed]
  omega

theorem kU_ok : kU.toKd.OK where
  law := int_keyed Try.underlying23
  ht := Try.underlying27
  key := fun p hp => ⟨_, keyOf_int_mk Try.underlying23 (wf_u64 hp.1)⟩
  inj := fun p q hp hq h => by
    have h1 : (Value.int .u64 (p.1 : Int)) = .int .u64 (q.1 : Int) := h
    simp only [Value.int.injEq, true_and] at h1
    exact Prod.ext (by omega) (by rw [hp.2, hq.2])

set_option maxRecDepth 100000 in
theorem ufind_any {w : World} {p c : Nat} {A : Option Addr} {m : Option Nat} {l : List PP} (h : Tab kU w p A c m l) {q : PP} (hq : NmU q) :
    Calls Try.prog 37 #[.pointer (some ⟨p, 0, none⟩), .int .u64 (q.1 : Int)] w fun e w' => e = .returned (.tuple #[.int .i64 (numP l q : Int), .bool (hasP l q)]) ∧ w = w' := by
  have LK : (Instr.lookup 27 (.map m) (.int .u64 (q.1 : Int)) true).run Try.prog w = .ok (.tuple #[.int .i64 (numP l q : Int), .bool (hasP l q)]) w := h.map.look kU_ok hq
  have c1 := h.c1
  clear h
  generalize numP l q = x at *
  generalize hasP l q = y at *
  go_enter Try.func37, Try.ntmps37
  go_wp2
  go_ret2
  exact ⟨rfl, rfl⟩

set_option maxRecDepth 100000 in
theorem uname_any {w : World} {p c : Nat} {A : Option Addr} {m : Option Nat} {l : List PP} (h : Tab kU w p A c m l) (k : Int) :
    Calls Try.prog 38 #[.pointer (some ⟨p, 0, none⟩), .int .i64 k] w fun e w' => e = .returned (.tuple #[.int .u64 ((nameP l k).1.1 : Int), .int .i64 (nameP l k).2]) ∧ w = w' := by
  have c0 := h.c0
  have hcap := h.cap
  by_cases hk : 0 ≤ k ∧ k < l.length
  · obtain ⟨j, rfl⟩ : ∃ j : Nat, k = j := ⟨k.toNat, by omega⟩
    have hj : j < l.length := by omega
    obtain ⟨ad, rfl, hb, c2⟩ := u_at (show Rd w w.heap.size 1 A l.length (uc l) from h.rd) hj
    have e : nameP l (j : Int) = (at0 l j, 0) := by unfold nameP; rw [if_pos hk]; rfl
    rw [e]
    have d1 : decide ((j : Int) < 0) = false := decide_eq_false (by omega)
    have d2 : decide ((l.length : Int) ≤ (j : Int)) = false := decide_eq_false (by omega)
    clear e h hk
    generalize ((at0 l j).1 : Int) = x1 at *
    generalize l.length = n at *
    go_enter Try.func38, Try.ntmps38
    go_wp2
    go_ret2
    exact ⟨rfl, rfl⟩
  · have e : nameP l k = ((0, 0), 70) := by unfold nameP; rw [if_neg hk]
    rw [e]
    clear h e
    by_cases h1 : k < 0
    · have d1 : decide (k < 0) = true := decide_eq_true h1
      clear hk
      go_enter Try.func38, Try.ntmps38
      go_wp2
      go_ret2
      exact ⟨rfl, rfl⟩
    · have d1 : decide (k < 0) = false := decide_eq_false h1
      have d2 : decide ((l.length : Int) ≤ k) = true := decide_eq_true (by omega)
      clear hk
      generalize l.length = n at *
      go_enter Try.func38, Try.ntmps38
      go_wp2
      go_ret2
      exact ⟨rfl, rfl⟩

end Go.Proofs.Ytidlpiamiglppaa
