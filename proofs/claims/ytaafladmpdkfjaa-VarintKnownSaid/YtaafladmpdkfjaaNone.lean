/-
  The statement's function VarintNone returns true, for every input.
-/
import Derived.Test.YtaafladmpdkfjaaAct
import Derived.Handy
namespace Go.Proofs.Ytaafladmpdkfjaa
open Go Go.RowKit
set_option linter.unusedVariables false

theorem wnumber_nil (s : Value) (w : World) : Calls Try.prog 20 #[.pointer none, s] w fun e w' => e = .returned (.int .i64 1) ∧ w = w' := by
  go_enter Try.func20, Try.ntmps20
  go_wp2
  go_ret
  exact ⟨rfl, rfl⟩
theorem wraw_nil (s : Value) (w : World) : Calls Try.prog 21 #[.pointer none, s] w fun e w' => e = .returned (.int .i64 1) ∧ w = w' := by
  go_enter Try.func21, Try.ntmps21
  go_wp2
  go_ret
  exact ⟨rfl, rfl⟩
theorem wtext_nil (s : Value) (w : World) : Calls Try.prog 22 #[.pointer none, s] w fun e w' => e = .returned (.int .i64 1) ∧ w = w' := by
  go_enter Try.func22, Try.ntmps22
  go_wp2
  go_ret
  exact ⟨rfl, rfl⟩
theorem wbytes_nil (w : World) : Calls Try.prog 23 #[.pointer none] w fun e w' => e = .returned (.slice none 0 0) ∧ w = w' := by
  go_enter Try.func23, Try.ntmps23
  go_wp2
  go_ret
  exact ⟨rfl, rfl⟩
theorem wlen_nil (w : World) : Calls Try.prog 24 #[.pointer none] w fun e w' => e = .returned (.int .i64 0) ∧ w = w' := by
  go_enter Try.func24, Try.ntmps24
  go_wp2
  go_ret
  exact ⟨rfl, rfl⟩
theorem rerr_nil (w : World) : Calls Try.prog 36 #[.pointer none] w fun e w' => e = .returned (.int .i64 1) ∧ w = w' := by
  go_enter Try.func36, Try.ntmps36
  go_wp2
  go_ret
  exact ⟨rfl, rfl⟩
theorem rat_nil (w : World) : Calls Try.prog 34 #[.pointer none] w fun e w' => e = .returned (.int .i64 0) ∧ w = w' := by
  go_enter Try.func34, Try.ntmps34
  go_wp2
  go_ret
  exact ⟨rfl, rfl⟩
theorem rleft_nil (w : World) : Calls Try.prog 35 #[.pointer none] w fun e w' => e = .returned (.int .i64 0) ∧ w = w' := by
  go_enter Try.func35, Try.ntmps35
  go_wp2
  go_ret
  exact ⟨rfl, rfl⟩
theorem rnumber_nil (w : World) : Calls Try.prog 27 #[.pointer none] w fun e w' => e = .returned (.int .u64 0) ∧ w = w' := by
  go_enter Try.func27, Try.ntmps27
  go_wp2_with (go_at_call 36; refine (rerr_nil _).mono ?_; rintro e w' ⟨rfl, rfl⟩)
  go_ret
  exact ⟨rfl, rfl⟩
theorem rnumbers_nil (n : Int) (w : World) : Calls Try.prog 33 #[.pointer none, .int .i64 n] w fun e w' => e = .returned (.slice none 0 0) ∧ w = w' := by
  go_enter Try.func33, Try.ntmps33
  go_wp2_with (go_at_call 36; refine (rerr_nil _).mono ?_; rintro e w' ⟨rfl, rfl⟩)
  go_ret
  exact ⟨rfl, rfl⟩
theorem rraw_nil (n : Int) (w : World) : Calls Try.prog 29 #[.pointer none, .int .i64 n] w fun e w' => e = .returned (.slice none 0 0) ∧ w = w' := by
  go_enter Try.func29, Try.ntmps29
  go_wp2_with (go_at_call 36; refine (rerr_nil _).mono ?_; rintro e w' ⟨rfl, rfl⟩)
  go_ret
  exact ⟨rfl, rfl⟩
theorem rtext_nil (w : World) : Calls Try.prog 31 #[.pointer none] w fun e w' => e = .returned (.slice none 0 0) ∧ w = w' := by
  go_enter Try.func31, Try.ntmps31
  go_wp2_with (first | (go_at_call 36; refine (rerr_nil _).mono ?_; rintro e w' ⟨rfl, rfl⟩) | (go_at_call 34; refine (rat_nil _).mono ?_; rintro e w' ⟨rfl, rfl⟩) | (go_at_call 27; refine (rnumber_nil _).mono ?_; rintro e w' ⟨rfl, rfl⟩))
  go_ret
  exact ⟨rfl, rfl⟩

theorem act_lit (w : World) (g : Nat) (hg : g = w.heap.size) (d : Int) (v : Nat) (k : Int) (bA lA : Option Addr) (bn bc ln lc : Nat) (t : TypeId) :
    Rd (w.alloc (.cells #[.int .i64 d, .int .u64 v, .int .i64 k, .slice bA bn bc, .slice lA ln lc] t)) (w.heap.size + 1) 5 (some ⟨g, 0, none⟩) 1 (actCells [⟨d, v, k, bA, bn, bc, lA, ln, lc⟩]) := by
  subst hg
  have ho := World.ownsRow_lit (base := w.heap.size) (e := t) (size := 5) w #[.int .i64 d, .int .u64 v, .int .i64 k, .slice bA bn bc, .slice lA ln lc] 1 (Nat.le_refl _) (by decide) rfl
  exact (Rd.own ho).more (by simp)

set_option maxRecDepth 100000 in
set_option maxHeartbeats 1600000 in
theorem none_any (d : Int) (v : Nat) (k : Int) (bA lA : Option Addr) (bn bc ln lc : Nat) (w : World) :
    Calls Try.prog 7 #[.agg #[.int .i64 d, .int .u64 v, .int .i64 k, .slice bA bn bc, .slice lA ln lc]] w fun e w' => e = .returned (.bool true) ∧ Below w.heap.size w w' := by
  go_enter Try.func7, Try.ntmps7
  go_wp2_with fail
  refine (few_any _ 1 1 _ [⟨d, v, k, bA, bn, bc, lA, ln, lc⟩] _ (act_lit _ _ (by simp) d v k bA lA bn bc ln lc _) rfl (by omega)).mono ?_
  rintro e w1 ⟨b, rfl, rfl, _⟩
  cases b with
  | false =>
    go_wp2_with (go_at_call 9; refine (works_any _).mono ?_; rintro e w2 ⟨rfl, hb2⟩)
    go_ret
    refine ⟨rfl, Below.trans ?_ (hb2.mono ?_)⟩
    · go_grown
    · simp; omega
  | true =>
    go_wp2_with (first
      | (go_at_call 20; refine (wnumber_nil _ _).mono ?_; rintro e w' ⟨rfl, rfl⟩)
      | (go_at_call 21; refine (wraw_nil _ _).mono ?_; rintro e w' ⟨rfl, rfl⟩)
      | (go_at_call 22; refine (wtext_nil _ _).mono ?_; rintro e w' ⟨rfl, rfl⟩)
      | (go_at_call 23; refine (wbytes_nil _).mono ?_; rintro e w' ⟨rfl, rfl⟩)
      | (go_at_call 24; refine (wlen_nil _).mono ?_; rintro e w' ⟨rfl, rfl⟩)
      | (go_at_call 27; refine (rnumber_nil _).mono ?_; rintro e w' ⟨rfl, rfl⟩)
      | (go_at_call 33; refine (rnumbers_nil _ _).mono ?_; rintro e w' ⟨rfl, rfl⟩)
      | (go_at_call 29; refine (rraw_nil _ _).mono ?_; rintro e w' ⟨rfl, rfl⟩)
      | (go_at_call 31; refine (rtext_nil _).mono ?_; rintro e w' ⟨rfl, rfl⟩)
      | (go_at_call 35; refine (rleft_nil _).mono ?_; rintro e w' ⟨rfl, rfl⟩)
      | (go_at_call 34; refine (rat_nil _).mono ?_; rintro e w' ⟨rfl, rfl⟩)
      | (go_at_call 36; refine (rerr_nil _).mono ?_; rintro e w' ⟨rfl, rfl⟩)
      | (go_at_call 9; refine (works_any _).mono ?_; rintro e w2 ⟨rfl, hb2⟩))
    go_ret
    refine ⟨rfl, Below.trans ?_ (hb2.mono ?_)⟩
    · go_grown
    · simp; omega

end Go.Proofs.Ytaafladmpdkfjaa
