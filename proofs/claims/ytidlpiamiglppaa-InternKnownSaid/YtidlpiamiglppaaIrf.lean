/-
  The document's Find, Less, Name and Names, for every row of pairs.
-/
import Derived.Test.YtidlpiamiglppaaIba
namespace Go.Proofs.Ytidlpiamiglppaa
open Go Go.RowKit
set_option linter.unusedVariables false

def NotAhead (l : List PP) (p : PP) (k : Nat) : Prop := ∀ j, j < k → at0 l j ≠ p
theorem NotAhead.zero (l : List PP) (p : PP) : NotAhead l p 0 := fun j h => by omega
theorem NotAhead.succ {l : List PP} {p : PP} {k : Nat} (h : NotAhead l p k) (hk : at0 l k ≠ p) : NotAhead l p (k + 1) := fun j hj => by
  rcases Nat.lt_or_ge j k with h1 | h1
  · exact h j h1
  · obtain rfl : j = k := by omega
    exact hk

/-- What a search answers. -/
def fv (l : List PP) (p : PP) : Value := .tuple #[.int .i64 (numP l p : Int), .bool (hasP l p)]

set_option maxRecDepth 100000 in
theorem rfind_any (B n c : Nat) (A : Option Addr) (l : List PP) (p : PP) (w : World) (h : Rd w B 2 A n (pc l)) (hB : B ≤ w.heap.size) (hn : n ≤ 9223372036854775807) :
    Calls Try.prog 21 #[.slice A n c, pv p] w fun e w' => e = .returned (fv l p) ∧ Below w.heap.size w w' := by
  have HL := Lib_hid (rdp_count h)
  have H := fun (W : World) (hW : Below w.heap.size w W) (i : Nat) (hi : i < n) => p_at (h.below (hW.mono hB)) hi
  have HH := Lib_hid H
  have EQ := fun (a : PP) (W : World) => eql_pp a p W
  have HE := Lib_hid EQ
  clear H h EQ
  have hb0 := below_new w (.cells #[.int .u64 (p.1 : Int), .int .u64 (p.2 : Int)] 50)
  go_enter Try.func21, Try.ntmps21
  unfold pv
  go_wp2
  go_loopw [6] (fun i wr => ∃ k q : Nat, i = .int .i64 k ∧ k ≤ n ∧ NotAhead l p k ∧ wr = (w.alloc (.cells #[.int .u64 (p.1 : Int), .int .u64 (p.2 : Int)] 50)).drewN q) (fun i _ => n - (intOf i).toNat)
  case atStart => exact ⟨0, 0, rfl, Nat.zero_le _, NotAhead.zero _ _, rfl⟩
  case round =>
    obtain ⟨k, q, rfl, hk, hag, rfl⟩ := hrel
    by_cases hlt : k < n
    · obtain ⟨b, off, rfl, hb, c1, c2⟩ := HH.out _ hb0 k hlt
      have e := HE.out (at0 l k)
      by_cases he : at0 l k = p
      · have hi := idx_first (by rw [HL.out]; exact hlt) he hag
        have hv : fv l p = .tuple #[.int .i64 (k : Int), .bool true] := by unfold fv hasP; rw [numP_old hi.1, hi.2, decide_eq_true hi.1]
        rw [he] at e c1 c2
        simp only [decide_true, pv] at e
        clear hag he hi
        go_wp2
        go_region
        go_wp2
        go_ret2
        exact ⟨by rw [hv]; rfl, below_drew_ hb0⟩
      · have hag' := hag.succ he
        rw [decide_eq_false he] at e
        simp only [pv] at e
        clear hag he
        go_wp2
        go_region
        go_wp2
        go_roundw
        case rel => exact ⟨k + 1, q + 1, by go_num, by omega, hag', rfl⟩
        case measure => simp [intOf]; omega
    · obtain rfl : k = n := by omega
      have hm : p ∉ l := not_mem_at (by rw [HL.out]; exact hag)
      have hv : fv l p = .tuple #[.int .i64 0, .bool false] := by unfold fv hasP; rw [numP_new hm, decide_eq_false hm]; rfl
      clear hag hm
      go_wp2
      go_ret2
      exact ⟨by rw [hv]; rfl, below_drew_ hb0⟩

set_option maxRecDepth 100000 in
theorem rless_any (a b : PP) (w : World) :
    Calls Try.prog 36 #[pv a, pv b] w fun e w' => e = .returned (.bool (lessP a b)) ∧ Below w.heap.size w w' := by
  have hb1 := below_new w (.cells #[.int .u64 (a.1 : Int), .int .u64 (a.2 : Int)] 50)
  have hb2 := hb1.alloc hb1.size (.cells #[.int .u64 (b.1 : Int), .int .u64 (b.2 : Int)] 50)
  have hc : lessP a b = (decide ((a.1 : Int) < (b.1 : Int)) || (((a.1 : Int) == (b.1 : Int)) && decide ((a.2 : Int) < (b.2 : Int)))) := by
    rw [Bool.eq_iff_iff, lessP_iff]
    simp only [Bool.or_eq_true, Bool.and_eq_true, decide_eq_true_eq, beq_iff_eq]
    omega
  rw [hc]
  clear hc
  unfold pv
  generalize (a.1 : Int) = a1 at *
  generalize (a.2 : Int) = a2 at *
  generalize (b.1 : Int) = b1 at *
  generalize (b.2 : Int) = b2 at *
  by_cases h1 : a1 < b1
  · have d1 : decide (a1 < b1) = true := decide_eq_true h1
    go_enter Try.func36, Try.ntmps36
    go_wp2
    go_ret
    exact ⟨by simp [h1], hb2⟩
  · have d1 : decide (a1 < b1) = false := decide_eq_false h1
    by_cases h2 : a1 = b1
    · subst h2
      have d2 : (a1 == a1) = true := by simp
      go_enter Try.func36, Try.ntmps36
      go_wp2
      go_ret
      exact ⟨by simp, hb2⟩
    · have d2 : (a1 == b1) = false := by simpa using h2
      go_enter Try.func36, Try.ntmps36
      go_wp2
      go_ret
      exact ⟨by simp, hb2⟩

/-- The name of a number; none. -/
def nameP (l : List PP) (k : Int) : PP × Int := if 0 ≤ k ∧ k < l.length then (at0 l k.toNat, 0) else ((0, 0), 70)

set_option maxRecDepth 100000 in
theorem rname_any (B n c : Nat) (A : Option Addr) (l : List PP) (k : Int) (w : World) (h : Rd w B 2 A n (pc l)) (hB : B ≤ w.heap.size) :
    Calls Try.prog 23 #[.slice A n c, .int .i64 k] w fun e w' => e = .returned (.tuple #[pv (nameP l k).1, .int .i64 (nameP l k).2]) ∧ Below w.heap.size w w' := by
  have hl := rdp_count h
  have hb1 := below_new w (.cells #[.int .u64 0, .int .u64 0] 50)
  by_cases hk : 0 ≤ k ∧ k < l.length
  · obtain ⟨j, rfl⟩ : ∃ j : Nat, k = j := ⟨k.toNat, by omega⟩
    have hj : j < n := by omega
    obtain ⟨b, off, rfl, hb, c1, c2⟩ := p_at (h.below (hb1.mono hB)) hj
    have e : nameP l (j : Int) = (at0 l j, 0) := by unfold nameP; rw [if_pos hk]; rfl
    rw [e]
    unfold pv
    have d1 : decide ((j : Int) < 0) = false := decide_eq_false (by omega)
    have d2 : decide ((n : Int) ≤ (j : Int)) = false := decide_eq_false (by omega)
    have hbw : b < w.heap.size := by omega
    clear e h hk
    generalize ((at0 l j).1 : Int) = x1 at *
    generalize ((at0 l j).2 : Int) = x2 at *
    go_enter Try.func23, Try.ntmps23
    go_wp2
    exact bodyPost_ret (v := .tuple #[.agg #[.int .u64 x1, .int .u64 x2], .int .i64 0]) (by simp [results, Try.results23, go_sem]) rfl ⟨rfl, below_new w _⟩
  · have e : nameP l k = ((0, 0), 70) := by unfold nameP; rw [if_neg hk]
    rw [e]
    unfold pv
    by_cases h1 : k < 0
    · have d1 : decide (k < 0) = true := decide_eq_true h1
      go_enter Try.func23, Try.ntmps23
      go_wp2
      exact bodyPost_ret (v := .tuple #[.agg #[.int .u64 0, .int .u64 0], .int .i64 70]) (by simp [results, Try.results23, go_sem]) rfl ⟨rfl, below_new w _⟩
    · have d1 : decide (k < 0) = false := decide_eq_false h1
      have d2 : decide ((n : Int) ≤ k) = true := decide_eq_true (by omega)
      go_enter Try.func23, Try.ntmps23
      go_wp2
      exact bodyPost_ret (v := .tuple #[.agg #[.int .u64 0, .int .u64 0], .int .i64 70]) (by simp [results, Try.results23, go_sem]) rfl ⟨rfl, below_new w _⟩

end Go.Proofs.Ytidlpiamiglppaa
