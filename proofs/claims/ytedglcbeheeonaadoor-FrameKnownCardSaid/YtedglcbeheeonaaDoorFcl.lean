/-
  The contract of the library's bytes.Clone: the library's own text is walked.
-/
import Derived.Test.YtedglcbeheeonaaDoorEqb
import Derived.Test.YtedglcbeheeonaaDoorStl
namespace Go.Proofs.YtedglcbeheeonaaDoor
open Go Go.RowKit
set_option linter.unusedVariables false

set_option maxRecDepth 100000 in
theorem bclone_any (B : Nat) (A : Option Addr) (n c : Nat) (l : List Nat) (w : World) (h : Rd w B 1 A n (bs l)) (hn : n ≤ 140737488355300) :
    Calls Tryd.prog 31 #[.slice A n c] w (Made 5 l w) := by
  have hcnt := h.count
  have hnil : ∀ wx, (binOp .eql 23 (.slice A n c) (.slice none 0 0)).run Tryd.prog wx = .ok (.bool A.isNone) wx := fun wx => Lib.run_eql_slice_nil wx 23 5 A n c 0 0 Tryd.underlying23
  cases A with
  | none =>
    have h0 := rd_none h rfl
    subst h0
    obtain rfl : l = [] := List.eq_nil_of_length_eq_zero hcnt
    go_enter Tryd.func31, Tryd.ntmps31
    go_wp2
    go_ret
    exact ⟨none, 0, rfl, own_none _ _ _, Below.refl _ _⟩
  | some ad =>
    obtain ⟨i0, hi, hz0, hz1, hz2⟩ := info_parts Tryd.info5
    have hm1 : 0 + n ≤ maxLen := by unfold maxLen; omega
    have hm2 : (0 + n) * 1 ≤ 140737488355328 := by omega
    have hon : (w.alloc (.cells #[] 5)).ownsRow w.heap.size 5 1 (.slice (some ⟨w.heap.size, 0, none⟩) 0 0) 0 [] := World.ownsRow_lit w #[] 0 (Nat.le_refl _) (by decide) rfl
    have h2 : Rd (w.alloc (.cells #[] 5)) (w.heap.size + 1) 1 (some ad) n (bs l) := by
      refine ⟨h.len, fun hn => ?_⟩
      obtain ⟨ad', e, hb, hc⟩ := h.lies hn
      have hlt : ad'.block < w.heap.size := by
        have := World.block_lt_of_cell? w _ (hc 0 ((bs l)[0]'(by have := h.len; omega)) (List.getElem?_eq_getElem _))
        rwa [add_block] at this
      exact ⟨ad', e, by omega, fun j u hu => (World.cell?_alloc_lt w _ _ (by rw [add_block]; exact hlt)).trans (hc j u hu)⟩
    have hsz : w.heap.size ≤ (w.alloc (.cells #[] 5)).heap.size := by simp
    clear h
    go_enter Tryd.func31, Tryd.ntmps31
    go_wp2_with (at_builtin; (refine wpList_app rfl _ _ 23 rfl w.heap.size 5 i0 (.int .u8 0) 1 1 Tryd.underlying23 hi hz0 hz1 hz2 rfl (by decide) _ 0 [] rfl hon (w.heap.size + 1) (some ad) n c (bs l) rfl h2 (bs_one _) hm1 hm2 hsz ?_); intro v' w1 hown' hst; simp only [Nat.zero_add, List.nil_append] at hown'; obtain ⟨A2, c2, rfl, _⟩ := own_form hown')
    go_ret
    rw [made_iff]
    exact ⟨A2, _, c2, rfl, hown', ((Below.refl _ _).alloc (Nat.le_refl _) _).trans (hst.below hsz (fun k hk => by have : w.heap.size = k := (by injection hk); omega))⟩

end Go.Proofs.YtedglcbeheeonaaDoor
