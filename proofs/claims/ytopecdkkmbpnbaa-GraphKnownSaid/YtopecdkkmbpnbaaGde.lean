/-
  Layer 13: whether two rows of edges, and two graphs, are one, by the document.
-/
import Derived.Test.YtopecdkkmbpnbaaGdd
namespace Go.Proofs.Ytopecdkkmbpnbaa
open Go Go.RowKit Go.Maps
set_option linter.unusedVariables false

set_option maxRecDepth 100000 in
theorem neq_dd (a b : Ed) (w : World) : (binOp .neq 48 (eV a) (eV b)).run Try.prog w = .ok (.bool (!decide (a = b))) w := by
  have h := eql_dd a b w
  unfold eV at h ⊢
  rw [run_eql_struct] at h
  rw [run_neq_struct]
  generalize (Op.equalIn 10000 48 (.agg #[.int .i64 a.1, .int .i64 a.2.1, .int .i64 a.2.2]) (.agg #[.int .i64 b.1, .int .i64 b.2.1, .int .i64 b.2.2])).run Try.prog w = r at *
  cases r <;> simp_all [go_sem]

set_option maxRecDepth 100000 in
set_option maxHeartbeats 1600000 in
theorem rsamee_any {w : World} {B B' n n' c c' : Nat} {A A' : Option Addr} {L L' : List Ed} (h : Rd w B 3 A n (ec L)) (h' : Rd w B' 3 A' n' (ec L')) (hn : n ≤ 1000000) :
    Calls Try.prog 49 #[.slice A n c, .slice A' n' c'] w fun r w' => r = .returned (.bool (decide (L = L'))) ∧ ∃ q, w' = w.drewN q := by
  have HC := Lib_hid (rde_count h)
  have HC' := Lib_hid (rde_count h')
  by_cases hnn : n = n'
  · subst hnn
    have d0 : ((n : Int) != (n : Int)) = false := by simp
    have HI := Lib_hid (fun (i : Nat) (hi : i < n) => e_at h hi)
    have HJ := Lib_hid (fun (i : Nat) (hi : i < n) => e_at h' hi)
    have EQ := Lib_hid (fun (x y : Ed) (W : World) => neq_dd x y W)
    have HT : Hid (∀ i, i < n → L.take i = L'.take i → at3 L i = at3 L' i → L.take (i + 1) = L'.take (i + 1)) := fun i hi h1 h2 => by
      rw [take_snoc3 (by rw [HC.out]; exact hi), take_snoc3 (by rw [HC'.out]; exact hi), h1, h2]
    have HF : Hid (∀ i, i < n → at3 L i ≠ at3 L' i → decide (L = L') = false) := fun i hi h1 => decide_eq_false fun hc => h1 (by rw [hc])
    have HE : Hid (L.take n = L'.take n → decide (L = L') = true) := fun h1 => decide_eq_true (by rwa [List.take_of_length_le (by rw [HC.out]; exact Nat.le_refl _), List.take_of_length_le (by rw [HC'.out]; exact Nat.le_refl _)] at h1)
    unfold eV at EQ
    clear h h'
    go_enter Try.func49, Try.ntmps49
    go_wp2
    clear d0
    go_loopw [5] (fun i wr => ∃ k q : Nat, i = .int .i64 k ∧ k ≤ n ∧ Hid (L.take k = L'.take k) ∧ wr = w.drewN q) (fun i _ => n - (intOf i).toNat)
    case atStart => exact ⟨0, 0, rfl, Nat.zero_le _, (by simp [Hid]), rfl⟩
    case round =>
      obtain ⟨k, q, rfl, hk, hno, rfl⟩ := hrel
      by_cases hlt : k < n
      · obtain ⟨b, off, rfl, _, c0, c1, c2⟩ := HI.out k hlt
        obtain ⟨b', off', rfl, _, c0', c1', c2'⟩ := HJ.out k hlt
        have E1 := EQ.out (at3 L k) (at3 L' k)
        by_cases he : at3 L k = at3 L' k
        · have hno2 := Lib_hid (HT.out k hlt hno.out he)
          rw [decide_eq_true he] at E1
          clear hno he EQ
          generalize (at3 L k).1 = a1 at *
          generalize (at3 L k).2.1 = a2 at *
          generalize (at3 L k).2.2 = a3 at *
          generalize (at3 L' k).1 = b1 at *
          generalize (at3 L' k).2.1 = b2 at *
          generalize (at3 L' k).2.2 = b3 at *
          go_wp2
          go_quiet (fail)
          go_wp2
          go_roundw
          case rel => exact ⟨k + 1, q + nq, by go_num, by omega, hno2, rfl⟩
          case measure => simp [intOf]; omega
        · have FIN := Lib_hid (HF.out k hlt he)
          rw [decide_eq_false he] at E1
          clear hno he EQ
          generalize (at3 L k).1 = a1 at *
          generalize (at3 L k).2.1 = a2 at *
          generalize (at3 L k).2.2 = a3 at *
          generalize (at3 L' k).1 = b1 at *
          generalize (at3 L' k).2.1 = b2 at *
          generalize (at3 L' k).2.2 = b3 at *
          go_wp2
          go_quiet (fail)
          go_wp2
          go_ret
          exact ⟨by rw [FIN.out]; rfl, q + nq, by first | rfl | simp [World.drewN_drewN] | (unfold World.drewN; simp [Nat.add_assoc])⟩
      · obtain rfl : k = n := by omega
        have FIN := Lib_hid (HE.out hno.out)
        go_wp2
        go_ret
        exact ⟨by rw [FIN.out]; rfl, q, rfl⟩
  · have d0 : ((n : Int) != (n' : Int)) = true := by simp; omega
    have FIN : Hid (decide (L = L') = false) := decide_eq_false fun hc => hnn (by rw [← HC.out, ← HC'.out, hc])
    clear h h' hnn
    go_enter Try.func49, Try.ntmps49
    go_wp2
    go_ret
    exact ⟨by rw [FIN.out]; rfl, 0, rfl⟩

set_option maxRecDepth 100000 in
set_option maxHeartbeats 1600000 in
/-- The document's Same. -/
theorem rsame_any {w : World} {B B' n n' c c' N N' : Nat} {A A' : Option Addr} {L L' : List Ed} (h : Rd w B 3 A n (ec L)) (h' : Rd w B' 3 A' n' (ec L')) (hB : B ≤ w.heap.size) (hB' : B' ≤ w.heap.size) (hn : n ≤ 1000000) :
    Calls Try.prog 20 #[.agg #[.int .i64 (N : Int), .slice A n c], .agg #[.int .i64 (N' : Int), .slice A' n' c']] w fun r w' => r = .returned (.bool (decide (N = N' ∧ L = L'))) ∧ Below w.heap.size w w' := by
  have b1 := below_new w (.cells #[.int .i64 (N : Int), .slice A n c] 31)
  have s1 : (w.alloc (.cells #[.int .i64 (N : Int), .slice A n c] 31)).heap.size = w.heap.size + 1 := by simp
  have b2 := below_new (w.alloc (.cells #[.int .i64 (N : Int), .slice A n c] 31)) (.cells #[.int .i64 (N' : Int), .slice A' n' c'] 31)
  have x1 := (b2.block w.heap.size (by omega)).trans (heap_alloc_new w _)
  have x2 := heap_alloc_new (w.alloc (.cells #[.int .i64 (N : Int), .slice A n c] 31)) (.cells #[.int .i64 (N' : Int), .slice A' n' c'] 31)
  rw [s1] at x2
  have HW := Lib_hid (b1.trans (b2.mono b1.size))
  clear b1 b2 s1
  by_cases hNN : N = N'
  · subst hNN
    have HS := Lib_hid (fun (W : World) (hW : Below w.heap.size w W) => rsamee_any (c := c) (c' := c') (h.below (hW.mono hB)) (h'.below (hW.mono hB')) hn)
    have FIN : Hid (decide (N = N ∧ L = L') = decide (L = L')) := by simp [Hid]
    clear h h'
    go_enter Try.func20, Try.ntmps20
    go_upto_region 1 with (fail)
    generalize (w.alloc (.cells #[.int .i64 (N : Int), .slice A n c] 31)).alloc (.cells #[.int .i64 (N : Int), .slice A' n' c'] 31) = W at *
    have g0 := cell_of_row _ _ 0 _ _ _ x1
    have g1 := cell_of_row _ _ 1 _ _ _ x1
    have g2 := cell_of_row _ _ 0 _ _ _ x2
    have g3 := cell_of_row _ _ 1 _ _ _ x2
    have d0 : ((N : Int) == (N : Int)) = true := by simp
    have HSW := Lib_hid (HS.out _ HW.out)
    clear x1 x2 HS
    go_wp2_with ((go_at_call 49; refine HSW.out.mono ?_; rintro r w3 ⟨rfl, q, rfl⟩))
    go_wp2
    go_ret
    exact ⟨by rw [FIN.out]; rfl, below_drew_ HW.out⟩
  · have FIN : Hid (decide (N = N' ∧ L = L') = false) := decide_eq_false fun hc => hNN hc.1
    have d0 : ((N : Int) == (N' : Int)) = false := by simp; omega
    clear h h' hNN
    go_enter Try.func20, Try.ntmps20
    go_upto_region 1 with (fail)
    generalize (w.alloc (.cells #[.int .i64 (N : Int), .slice A n c] 31)).alloc (.cells #[.int .i64 (N' : Int), .slice A' n' c'] 31) = W at *
    have g0 := cell_of_row _ _ 0 _ _ _ x1
    have g1 := cell_of_row _ _ 1 _ _ _ x1
    have g2 := cell_of_row _ _ 0 _ _ _ x2
    have g3 := cell_of_row _ _ 1 _ _ _ x2
    clear x1 x2
    go_wp2
    go_ret
    exact ⟨by rw [FIN.out]; rfl, HW.out⟩

end Go.Proofs.Ytopecdkkmbpnbaa
