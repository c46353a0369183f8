/-
  The statements' 'works' (the chapter's examples) returns true.
-/
import Derived.Test.YtaafladmpdkfjaaRget
namespace Go.Proofs.Ytaafladmpdkfjaa
open Go Go.RowKit
set_option linter.unusedVariables false

theorem lit_get (w : World) (g n : Nat) (l : List Nat) (cs : Array Value) (x : Nat × Nat × Nat) (v : Value) (hg : g = w.heap.size) (hcs : cs.toList = bs l) (hn : l.length = n) (hb : l.all (fun x => decide (x < 256)) = true) (hn2 : n ≤ 1000) (hx : getS l 0 = x) (hv : tup x = v) :
    Calls Try.prog 16 #[.slice (some ⟨g, 0, none⟩) n n, .int .i64 0] (w.alloc (.cells cs 5)) fun e w' => e = .returned v ∧ (w.alloc (.cells cs 5)) = w' := by
  subst hg hn hx hv
  have ho : (w.alloc (.cells cs 5)).ownsRow w.heap.size 5 1 (.slice (some ⟨w.heap.size, 0, none⟩) l.length l.length) l.length (bs l) := by
    rw [← hcs]
    exact World.ownsRow_lit w cs l.length (Nat.le_refl _) (by unfold maxLen; omega) (by have := congrArg List.length hcs; rw [bs_length] at this; simpa using this)
  exact get_any _ _ _ _ l 0 _ (Rd.own ho) (fun x hx => by have := List.all_eq_true.1 hb x hx; simpa using this) (Nat.le_refl _) (by omega)

theorem lit_rd (w : World) (g n : Nat) (l : List Nat) (cs : Array Value) (hg : g = w.heap.size) (hcs : cs.toList = bs l) (hn : l.length = n) (hn2 : n ≤ 1000) : Rd (w.alloc (.cells cs 5)) (w.heap.size + 1) 1 (some ⟨g, 0, none⟩) n (bs l) := by
  subst hg hn
  have ho : (w.alloc (.cells cs 5)).ownsRow w.heap.size 5 1 (.slice (some ⟨w.heap.size, 0, none⟩) l.length l.length) l.length (bs l) := by
    rw [← hcs]
    exact World.ownsRow_lit w cs l.length (Nat.le_refl _) (by unfold maxLen; omega) (by have := congrArg List.length hcs; rw [bs_length] at this; simpa using this)
  exact (Rd.own ho).more (by simp)

set_option maxRecDepth 100000 in
theorem works_any (w : World) :
    Calls Try.prog 9 #[] w fun e w' => e = .returned (.bool true) ∧ Below w.heap.size w w' := by
  go_enter Try.func9, Try.ntmps9
  go_wp2_with fail
  refine (lit_get _ _ _ [172, 2] _ (300, 2, 0) (.tuple #[.int .u64 300, .int .i64 2, .int .i64 0]) ?_ rfl rfl (by decide) (by decide) (by decide) rfl).mono ?_
  · simp
  rintro e w' ⟨rfl, rfl⟩
  go_wp2_with fail
  refine (lit_get _ _ _ [128, 0] _ (0, 0, 10) (.tuple #[.int .u64 0, .int .i64 0, .int .i64 10]) ?_ rfl rfl (by decide) (by decide) (by decide) rfl).mono ?_
  · simp
  rintro e w' ⟨rfl, rfl⟩
  go_wp2_with fail
  refine (lit_get _ _ _ [128] _ (0, 0, 4) (.tuple #[.int .u64 0, .int .i64 0, .int .i64 4]) ?_ rfl rfl (by decide) (by decide) (by decide) rfl).mono ?_
  · simp
  rintro e w' ⟨rfl, rfl⟩
  go_wp2_with fail
  refine (lit_get _ _ _ [255, 255, 255, 255, 255, 255, 255, 255, 255, 1] _ (18446744073709551615, 10, 0) (.tuple #[.int .u64 18446744073709551615, .int .i64 10, .int .i64 0]) ?_ rfl rfl (by decide) (by decide) (by decide) rfl).mono ?_
  · simp
  rintro e w' ⟨rfl, rfl⟩
  go_wp2_with fail
  refine (lit_get _ _ _ [255, 255, 255, 255, 255, 255, 255, 255, 255, 2] _ (0, 0, 10) (.tuple #[.int .u64 0, .int .i64 0, .int .i64 10]) ?_ rfl rfl (by decide) (by decide) (by decide) rfl).mono ?_
  · simp
  rintro e w' ⟨rfl, rfl⟩
  go_wp2_with fail
  refine (put_any 300 _ (by omega)).mono ?_
  rw [show enc 300 = [172, 2] by rw [enc_ge (by omega), enc_lt (by omega)]]
  rintro e w1 ⟨A1, c1, rfl, ho1, hb1⟩
  have hbw : Below w.heap.size w w1 := by
    refine Below.trans ?_ (hb1.mono ?_)
    · go_grown
    · simp; omega
  clear hb1
  go_wp2_with fail
  refine (same_any w1.heap.size (w1.heap.size + 1) _ _ _ _ _ _ [172, 2] [172, 2] _ ((Rd.own ho1).alloc (Nat.le_refl _) _) (lit_rd w1 _ 2 _ _ rfl rfl rfl (by decide)) (by decide)).mono ?_
  rw [eqB_self]
  rintro e w2 ⟨rfl, q, rfl⟩
  go_wp2
  go_ret
  exact ⟨rfl, below_drew_ (hbw.alloc hbw.size _)⟩

end Go.Proofs.Ytaafladmpdkfjaa
