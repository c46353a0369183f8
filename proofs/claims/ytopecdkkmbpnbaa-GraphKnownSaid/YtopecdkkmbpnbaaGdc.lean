/-
  Layer 13: edges as the document has them (Edges); the document's Add, where all edges are between nodes.
-/
import Derived.Test.YtopecdkkmbpnbaaGdb
namespace Go.Proofs.Ytopecdkkmbpnbaa
open Go Go.RowKit Go.Maps
set_option linter.unusedVariables false

set_option maxRecDepth 100000 in
set_option maxHeartbeats 1600000 in
theorem redges_any {w : World} {B n c : Nat} {A : Option Addr} {l : List Ed} (h : Rd w B 3 A n (ec l)) (hB : B ≤ w.heap.size) (hn : n ≤ 1000000) :
    Calls Try.prog 15 #[.slice A n c] w (MadeC 48 3 n (ec l) w) := by
  have HC := Lib_hid (rde_count h)
  have HI := Lib_hid (fun (W : World) (hW : Below w.heap.size w W) (i : Nat) (hi : i < n) => e_at (h.below (hW.mono hB)) hi)
  obtain ⟨i0, hi, hz0, hz1, hz2⟩ := info_parts Try.infoD
  clear h
  go_enter Try.func15, Try.ntmps15
  go_wp2
  go_loopw [3, 4] (fun o i wr => ∃ (k c' : Nat) (A' : Option Addr), o = .slice A' k c' ∧ i = .int .i64 k ∧ k ≤ n ∧ wr.ownsRow w.heap.size 48 3 (.slice A' k c') k (ec (l.take k)) ∧ Below w.heap.size w wr) (fun _ i _ => n - (intOf i).toNat)
  case atStart => exact ⟨0, 0, none, rfl, rfl, Nat.zero_le _, own_zero _ _ _ _, Below.refl _ _⟩
  case round =>
    obtain ⟨k, c', A', rfl, rfl, hk, ho, hbw⟩ := hrel
    by_cases hlt : k < n
    · have ht : Hid (l.take (k + 1) = l.take k ++ [((at3 l k).1, (at3 l k).2.1, (at3 l k).2.2)]) := take_snoc3 (by rw [HC.out]; exact hlt)
      have hm1 : k + 1 ≤ maxLen := by unfold maxLen; omega
      have hm2 : (k + 1) * 24 ≤ 140737488355328 := by omega
      obtain ⟨b, off, rfl, _, c0, c1, c2⟩ := HI.out _ hbw k hlt
      have ovd : wr.drew.ownsRow w.heap.size 48 3 (.slice A' k c') k (ec (l.take k)) := ho
      have oE := own_below ovd (below_new wr.drew (.cells #[.int .i64 (at3 l k).1, .int .i64 (at3 l k).2.1, .int .i64 (at3 l k).2.2] 48)) (own_lt ovd)
      have rE := ec_newD wr.drew ((at3 l k).1, (at3 l k).2.1, (at3 l k).2.2)
      have hb1 := hbw.drew.alloc hbw.size (.cells #[.int .i64 (at3 l k).1, .int .i64 (at3 l k).2.1, .int .i64 (at3 l k).2.2] 48)
      have hbs : w.heap.size ≤ (wr.drew.alloc (.cells #[.int .i64 (at3 l k).1, .int .i64 (at3 l k).2.1, .int .i64 (at3 l k).2.2] 48)).heap.size := hb1.size
      have HO := Lib_hid (And.intro oE (And.intro rE hb1))
      have hki : (k : Int) < (n : Int) := by omega
      have hk0 : (0 : Int) ≤ (k : Int) := by omega
      clear ovd oE rE hb1 ho hbw
      generalize (at3 l k).1 = a1 at *
      generalize (at3 l k).2.1 = a2 at *
      generalize (at3 l k).2.2 = a3 at *
      go_wp2
      go_region_law
        ((refine step_app rfl (.tmp 11) (.tmp 28) 29 rfl w.heap.size 48 i0 (.agg #[.int .i64 0, .int .i64 0, .int .i64 0]) 3 24 Try.underlying29 hi hz0 hz1 hz2 rfl (by decide) (.slice A' k c') k (ec (l.take k)) (by go_simp) HO.out.1 (wr.heap.size + 1) (some ⟨wr.heap.size, 0, none⟩) 1 1 (ec [(a1, a2, a3)]) (by go_simp) HO.out.2.1 (ec_one _) hm1 hm2 hbs ?_); intro v' w6 hown6 hst; obtain ⟨A6, cw6, rfl⟩ := own_form' hown6; have h66 := Lib_hid (And.intro hown6 hst); clear hown6 hst)
      all_goals
        have HS := Lib_hid (And.intro (show w6.ownsRow w.heap.size 48 3 (.slice A6 (k + 1) cw6) (k + 1) (ec (l.take (k + 1))) by rw [ht.out, ec_append]; exact h66.out.1) (HO.out.2.2.grown h66.out.2.grow hbs (own_ge HO.out.1)))
        clear h66 c0 c1 c2
        go_wp2
        go_roundw
        case rel => exact ⟨k + 1, cw6, A6, rfl, by go_num, by omega, HS.out.1, HS.out.2⟩
        case measure => simp [intOf]; omega
    · obtain rfl : k = n := by omega
      rw [show l.take k = l from List.take_of_length_le (by rw [HC.out]; exact Nat.le_refl _)] at ho
      go_wp2
      go_ret
      exact ⟨A', c', rfl, ho, hbw⟩

end Go.Proofs.Ytopecdkkmbpnbaa
