/-
  Layer 8: the document's Do: the walk.
-/
import Derived.Test.YtiembenkdldklaaDoorYi
import Derived.Deep.DeepCutAuto
import Derived.Deep.CutBlock
import Derived.StillTailTactics
namespace Go.Proofs.YtiembenkdldklaaDoor
open Go Go.RowKit
set_option linter.unusedVariables false

theorem clampN_nat {n : Nat} (h : n ≤ 65536) : clampN (n : Int) = n := by unfold clampN; omega

set_option maxRecDepth 100000 in
set_option maxHeartbeats 4000000 in
theorem ddo_any (how : Nat) (hh3 : how = 0 ∨ how = 1 ∨ how = 2) (B B' n' c' : Nat) (A' : Option Addr) (v : Value) (l : List Bool) (vs : List Value) (ms : List (List Bool)) (w : World) (h : DS w B v l) (hr' : Rd w B' 1 A' n' vs) (h' : DL w B' vs ms) (hB : B ≤ w.heap.size) (hB' : B' ≤ w.heap.size) (hn' : n' ≤ 1000000000) :
    Calls Tryd.prog 39 #[v, .int .i64 (how : Int), .slice A' n' c'] w (DDo how l ms w) := by
  obtain ⟨A, c, rfl, hr, hc, hle⟩ := h
  obtain ⟨W, hW, hs, hb, y0, y1⟩ := two_blocks w (.slice A l.length c) 33
  have HH := Lib_hid (fun (X : World) (hX : Below w.heap.size w X) (i : Nat) (hi : i < l.length) => b_at (hr.below (hX.mono hB)) hi)
  have HI := Lib_hid (fun (i : Nat) (X : World) (hX : Below w.heap.size w X) => din_any B' n' c' A' vs ms i X (hr'.below (hX.mono hB')) (h'.below (hX.mono hB')) (Nat.le_trans hB' hX.size) hn')
  have hnw := dnew_any (l.length : Int) W
  rw [clampN_nat hle] at hnw
  have HNW := Lib_hid hnw
  have c0 := cell_of_row _ _ 0 _ _ _ y0
  have HC : Hid (DDo how l ms = DDo how l ms) := rfl
  have hlb : Hid (∀ X : World, ∀ A2 c2, DoK w A c l.length X.heap.size A2 c2 (doR how l ms) l.length X → True) := fun _ _ _ _ => trivial
  have start : ∀ (w1 : World) (A2 : Option Addr) (c2 : Nat), w1.ownsRow W.heap.size 4 1 (.slice A2 l.length c2) l.length (bo (List.replicate l.length false)) → Below W.heap.size W w1 →
      DoK w A c l.length w1.heap.size A2 c2 (doR how l ms) 0 (w1.alloc (.cells #[.slice A2 l.length c2] 33)) := by
    intro w1 A2 c2 ho hb1
    have hs1 := hb1.size
    have hx := heap_alloc_new w1 (.cells #[.slice A2 l.length c2] 33)
    have hb2 := below_new w1 (.cells #[.slice A2 l.length c2] 33)
    refine ⟨?_, ?_, hx, ?_, ⟨by omega, fun g hg => ?_⟩, ?_⟩
    · exact (heap_alloc_old _ _ (by omega)).trans ((hb1.block _ (by omega)).trans y0)
    · exact (heap_alloc_old _ _ (by omega)).trans ((hb1.block _ (by omega)).trans y1)
    · rw [outK_zero, ← hs]
      exact own_keep ho fun j hj => heap_alloc_old _ _ (own_lt ho j hj)
    · have h1 := own_ge ho g (by rw [ob_eq]; exact hg)
      have h2 := own_lt ho g (by rw [ob_eq]; exact hg)
      omega
    · exact (hb.trans (hb1.mono (by omega))).trans (hb2.mono (by omega))
  have fin : ∀ (o : Nat) (A2 : Option Addr) (c2 : Nat) (X : World), DoK w A c l.length o A2 c2 (doR how l ms) l.length X →
      DDo how l ms w (.returned (.tuple #[.agg #[.slice A2 l.length c2], .int .i64 (difK (doR how l ms) (bt l) l.length : Int)])) (X.setCell ⟨w.heap.size + 1, 0, none⟩ (.slice A2 l.length c2)) := by
    intro o A2 c2 X hX
    have h1 := hX.row
    have h2 := own_cap h1
    refine ⟨A2, c2, by rw [doB_len], ⟨?_, Fr.mk fun k hk => by have := own_ge h1 k (by rw [ob_eq]; exact hk); omega⟩, hX.b.setCell (p := ⟨w.heap.size + 1, 0, none⟩) (by show w.heap.size ≤ w.heap.size + 1; omega) _⟩
    refine ⟨A2, c2, rfl, ?_, by rw [doB_len]; exact h2, by rw [doB_len]; exact hle⟩
    rw [doB_len]
    exact Rd.own (own_keep h1 fun j hj => heap_setCell_other _ _ _ _ (by have := own_ge h1 j hj; show j ≠ w.heap.size + 1; omega))
  have HS := Lib_hid start
  have HF := Lib_hid fin
  have HW := Lib_hid hW
  have HD := Lib_hid (And.intro hle hh3)
  clear start fin hW y0 y1 hr hr' h' hnw HC hlb hb hs hle
  generalize hn : l.length = n at *
  have HN := Lib_hid hn
  clear hn
  go_enter Tryd.func39, Tryd.ntmps39
  go_wp2_with fail
  rw [← HW.out]
  refine HNW.out.mono ?_
  rintro e w1 ⟨A2, c2, rfl, ho, hb1⟩
  rw [List.length_replicate] at ho
  simp only [List.length_replicate]
  have hk0 := HS.out w1 A2 c2 ho hb1
  have HK0 := Lib_hid hk0
  clear hk0 ho hb1
  go_upto_region 3 with (fail)
  have hk0 := HK0.out
  generalize w1.alloc (.cells #[.slice A2 n c2] 33) = W3 at *
  generalize w1.heap.size = o at *
  clear HK0 HNW c0 HS
  go_wp2
  go_loopw [9, 10] (fun m i wr => ∃ k : Nat, m = .int .i64 (difK (doR how l ms) (bt l) k : Int) ∧ i = .int .i64 k ∧ k ≤ n ∧ DoK w A c n o A2 c2 (doR how l ms) k wr) (fun _ i _ => n - (intOf i).toNat)
  case atStart => exact ⟨0, by simp [difK], rfl, Nat.zero_le _, hk0⟩
  case round =>
    clear hk0
    obtain ⟨k, rfl, rfl, hk, hK⟩ := hrel
    have q0 := cell_of_row _ _ 0 _ _ _ hK.y0
    have HKK := Lib_hid hK
    clear hK
    by_cases hlt : k < n
    · have hl := hlt
      obtain ⟨g, rfl⟩ := HKK.out.where_ (by omega)
      go_wp2_with fail
      refine (HI.out k wr HKK.out.b).mono ?_
      rintro e w5 ⟨rfl, hb5⟩
      have hK5 := HKK.out.below hb5
      obtain ⟨b, off, rfl, hbB, hcell⟩ := HH.out w5 hK5.b k hlt
      have q0 := cell_of_row _ _ 0 _ _ _ hK5.y0
      have qo := cell_of_row _ _ 0 _ _ _ hK5.yo
      obtain ⟨g0, g1⟩ := hK5.cell hlt
      have HK5 := Lib_hid hK5
      have hgs := hK5.ho.2 g rfl
      have hbw : b < w.heap.size := by omega
      have hbg : b ≠ g := by omega
      have hog : o ≠ g := by omega
      have hwg : w.heap.size ≠ g := by omega
      have hdif := difK_succ (doR how l ms) (bt l) k
      have hdle := difK_le (doR how l ms) (bt l) k
      have hd6 := HD.out.1
      have HNX := Lib_hid (hK5.store hlt)
      have hvv : doR how l ms k = (if how = 0 then bt l k || anyI ms k else if how = 1 then bt l k && allI ms k else bt l k && !anyI ms k) := rfl
      clear hb5 hK5 HKK
      generalize hv : doR how l ms k = v at *
      generalize hd : difK (doR how l ms) (bt l) k = d at *
      generalize bt (outK (doR how l ms) n k) k = old at *
      generalize bt l k = x at *
      generalize anyI ms k = a1 at *
      generalize allI ms k = e1 at *
      have HDD := Lib_hid hdif
      clear hdif hd hv
      have GO : True := trivial
      rcases HD.out.2 with h0 | h0 | h0
      · clear GO
        have d0 : ((how : Int) == 0) = true := by rw [h0]; rfl
        rw [if_pos h0] at hvv
        cases x <;> cases a1
        all_goals
          obtain rfl : v = _ := hvv
          dsimp only [Bool.or, Bool.and, Bool.not] at HNX HDD
          clear h0
          go_wp2
          go_still_tail 12, (by kernel_rfl)
          go_wp2
          go_region
          go_wp2
          go_roundw
          case rel => exact ⟨k + 1, by rw [HDD.out]; simp, by go_num, by omega, HNX.out.drewN 2⟩
          case measure => simp [intOf]; omega
      · clear GO
        have d0 : ((how : Int) == 0) = false := by rw [h0]; rfl
        have d1 : ((how : Int) == 1) = true := by rw [h0]; rfl
        rw [if_neg (by omega), if_pos h0] at hvv
        cases x <;> cases e1
        all_goals
          obtain rfl : v = _ := hvv
          dsimp only [Bool.or, Bool.and, Bool.not] at HNX HDD
          clear h0
          go_wp2
          go_still_tail 12, (by kernel_rfl)
          go_wp2
          go_region
          go_wp2
          go_roundw
          case rel => exact ⟨k + 1, by rw [HDD.out]; simp, by go_num, by omega, HNX.out.drewN 2⟩
          case measure => simp [intOf]; omega
      · clear GO
        have d0 : ((how : Int) == 0) = false := by rw [h0]; rfl
        have d1 : ((how : Int) == 1) = false := by rw [h0]; rfl
        rw [if_neg (by omega), if_neg (by omega)] at hvv
        cases x <;> cases a1
        all_goals
          obtain rfl : v = _ := hvv
          dsimp only [Bool.or, Bool.and, Bool.not] at HNX HDD
          clear h0
          go_wp2
          go_still_tail 13, (by kernel_rfl)
          go_wp2
          go_region
          go_wp2
          go_roundw
          case rel => exact ⟨k + 1, by rw [HDD.out]; simp, by go_num, by omega, HNX.out.drewN 2⟩
          case measure => simp [intOf]; omega
    · obtain rfl : k = n := by omega
      have HFI := Lib_hid (HF.out o A2 c2 wr HKK.out)
      have q1 := cell_of_row _ _ 0 _ _ _ HKK.out.y1
      have f1 := frozen_of_row _ _ 0 _ _ HKK.out.y1
      have qo := cell_of_row _ _ 0 _ _ _ HKK.out.yo
      have q2 := World.cell?_setCell_same' wr ⟨w.heap.size + 1, 0, none⟩ (.slice A2 k c2) (by rw [q1]; rfl)
      clear HF HKK
      generalize (difK (doR how l ms) (bt l) k : Int) = dd at *
      go_wp2
      exact bodyPost_ret (v := .tuple #[.agg #[.slice A2 k c2], .int .i64 dd]) (by simp [results, Tryd.results39, go_sem, q2]) rfl HFI.out

end Go.Proofs.YtiembenkdldklaaDoor
