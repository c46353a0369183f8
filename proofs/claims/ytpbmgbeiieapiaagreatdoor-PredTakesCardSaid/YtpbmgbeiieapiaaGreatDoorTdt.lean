/-
  Layer 4: the document's take.
-/
import Derived.Test.YtpbmgbeiieapiaaGreatDoorTdv
namespace Go.Proofs.YtpbmgbeiieapiaaGreatDoor
open Go Go.RowKit
set_option linter.unusedVariables false

set_option maxRecDepth 100000 in
set_option maxHeartbeats 6400000 in
theorem rtake_any {l : List Nat} (hb8 : ∀ x ∈ l, x < 256) (Ab : Option Addr) (nb cb : Nat) (hn : nb ≤ 100000) : ∀ (d : Nat), d ≤ 8 → ∀ (s B : Nat) (w : World), Rd w B 1 Ab nb (bs l) → B ≤ w.heap.size →
    Calls Tryz.prog 52 #[.slice Ab nb cb, .int .i64 (s : Int), .int .i64 (d : Int)] w (RtEnd l d s w) := by
  intro d
  induction d with
  | zero =>
    intro _ s B w hr hB
    obtain ⟨w1, hw1⟩ : ∃ w1, w1 = w.alloc (.cells #[.int .i64 0, .int .u64 0, .int .u64 0, .slice none 0 0] 30) := ⟨_, rfl⟩
    have q1 := heap_alloc_new w (.cells #[.int .i64 0, .int .u64 0, .int .u64 0, .slice none 0 0] 30)
    have b1 := below_new w (.cells #[.int .i64 0, .int .u64 0, .int .u64 0, .slice none 0 0] 30)
    rw [← hw1] at q1 b1
    have y0 := frozen_of_row w1 w.heap.size 0 _ _ q1
    have y1 := frozen_of_row w1 w.heap.size 1 _ _ q1
    have y2 := frozen_of_row w1 w.heap.size 2 _ _ q1
    have y3 := frozen_of_row w1 w.heap.size 3 _ _ q1
    have e0 := cell_of_row w1 _ 0 _ _ _ q1
    have e1 := cell_of_row w1 _ 1 _ _ _ q1
    have e2 := cell_of_row w1 _ 2 _ _ _ q1
    have e3 := cell_of_row w1 _ 3 _ _ _ q1
    simp at e0 e1 e2 e3
    have HX : Hid (RtEnd l 0 s w (.returned (.tuple #[.agg #[.int .i64 0, .int .u64 0, .int .u64 0, .slice none 0 0], .int .i64 (-1)])) (put4 w1 w.heap.size (.int .i64 0) (.int .u64 0) (.int .u64 0) (.slice none 0 0)) ∧
        (put4 w1 w.heap.size (.int .i64 0) (.int .u64 0) (.int .u64 0) (.slice none 0 0)).heap[w.heap.size]? = some (.cells #[.int .i64 0, .int .u64 0, .int .u64 0, .slice none 0 0] 30 (0, 0))) :=
      ⟨⟨0, 0, 0, 0, 0, none, none, rfl, put4_below b1 (Nat.le_refl _) _ _ _ _, .inr ⟨rfl, rfl⟩⟩, put4_row q1 _ _ _ _⟩
    clear q1 b1 hr
    go_enter Tryz.func52, Tryz.ntmps52
    go_upto_region 1 with (fail)
    rw [← hw1]
    clear hw1
    go_wp2_with fail
    show bodyPost _ _ _ _ _ (put4 w1 w.heap.size (.int .i64 0) (.int .u64 0) (.int .u64 0) (.slice none 0 0))
    have HX2 := HX.out
    clear HX e0 e1 e2 e3 y0 y1 y2 y3
    generalize put4 w1 w.heap.size (.int .i64 0) (.int .u64 0) (.int .u64 0) (.slice none 0 0) = W2 at *
    exact rtake_ret HX2.2 HX2.1 _ rfl rfl
  | succ d ih =>
    intro hd8 s B w hr hB
    have hln : l.length = nb := hr.count
    obtain ⟨w1, hw1⟩ : ∃ w1, w1 = w.alloc (.cells #[.int .i64 0, .int .u64 0, .int .u64 0, .slice none 0 0] 30) := ⟨_, rfl⟩
    have q1 := heap_alloc_new w (.cells #[.int .i64 0, .int .u64 0, .int .u64 0, .slice none 0 0] 30)
    have b1 := below_new w (.cells #[.int .i64 0, .int .u64 0, .int .u64 0, .slice none 0 0] 30)
    have s1 : w1.heap.size = w.heap.size + 1 := by rw [hw1]; simp
    rw [← hw1] at q1 b1
    have HNO : Hid (tkS l (d + 1) s = none → RtEnd l (d + 1) s w (.returned (.tuple #[.agg #[.int .i64 0, .int .u64 0, .int .u64 0, .slice none 0 0], .int .i64 (-1)])) (put4 w1 w.heap.size (.int .i64 0) (.int .u64 0) (.int .u64 0) (.slice none 0 0)) ∧
        (put4 w1 w.heap.size (.int .i64 0) (.int .u64 0) (.int .u64 0) (.slice none 0 0)).heap[w.heap.size]? = some (.cells #[.int .i64 0, .int .u64 0, .int .u64 0, .slice none 0 0] 30 (0, 0))) := fun h =>
      ⟨⟨0, 0, 0, 0, 0, none, none, rfl, put4_below b1 (Nat.le_refl _) _ _ _ _, .inr ⟨h, rfl⟩⟩, put4_row q1 _ _ _ _⟩
    have hd0 : (((d + 1 : Nat) : Int) == 0) = false := by simp; omega
    have hs0 : decide ((s : Int) < 0) = false := by simp
    obtain ⟨dd, hdd⟩ : ∃ dd, dd = ((d + 1 : Nat) : Int) := ⟨_, rfl⟩
    have hd1 : IntKind.i64.wrap (dd - 1) = (d : Int) := by rw [hdd, show ((d + 1 : Nat) : Int) - 1 = (d : Int) by omega]; exact IntWalk.i64_in _ (by omega)
    rw [← hdd] at hd0 ⊢
    clear hdd
    have y0 := frozen_of_row w1 w.heap.size 0 _ _ q1
    have y1 := frozen_of_row w1 w.heap.size 1 _ _ q1
    have y2 := frozen_of_row w1 w.heap.size 2 _ _ q1
    have y3 := frozen_of_row w1 w.heap.size 3 _ _ q1
    have e0 := cell_of_row w1 _ 0 _ _ _ q1
    have e1 := cell_of_row w1 _ 1 _ _ _ q1
    have e2 := cell_of_row w1 _ 2 _ _ _ q1
    have e3 := cell_of_row w1 _ 3 _ _ _ q1
    simp at e0 e1 e2 e3
    by_cases hs : s < nb
    · have hsl : decide ((nb : Int) ≤ (s : Int)) = false := by simp; omega
      have hlt : (s : Int) < (nb : Int) := by omega
      have h0 : (0 : Int) ≤ (s : Int) := by omega
      obtain ⟨ad, rfl, hadB, hby⟩ := hr.byte hs
      obtain ⟨x, hx⟩ : ∃ x, x = l.getD s 0 := ⟨_, rfl⟩
      have hx8 : x < 256 := by
        rw [hx, List.getD_eq_getElem?_getD, List.getElem?_eq_getElem (by omega)]
        exact hb8 _ (List.getElem_mem _)
      have hk : kindT l s = (x, s + 1) := by unfold kindT; rw [if_pos (by omega), hx]
      rw [← hx] at hby
      clear hx
      have hby1 : w1.cell? (ad.add s) = some (.int .u8 (x : Int)) := (World.cell?_of_block (b1.block _ (by rw [add_block]; omega))).trans hby
      by_cases hk1 : 1 ≤ x
      · have hx1 : decide ((x : Int) < 1) = false := by simp; omega
        by_cases hk7 : x ≤ 7
        · have hx7 : decide ((7 : Int) < (x : Int)) = false := by simp; omega
          have GO := rtake_good hb8 (some ad) nb cb hn d (by omega) (fun s B w => ih (by omega) s B w) s B w hr hB hs x hk1 hk7 hk dd hd0 hd1 ad rfl hby
          exact GO
        · have hx7 : decide ((7 : Int) < (x : Int)) = true := by simp; omega
          have HX := Lib_hid (HNO.out (by show (if (kindT l s).1 = 0 ∨ 7 < (kindT l s).1 then none else _) = _; rw [hk, if_pos (Or.inr (by simp only; omega))]))
          clear HNO q1 b1 hr hk1 hk7 hk hby ih
          go_enter Tryz.func52, Tryz.ntmps52
          go_upto_region 1 with (fail)
          rw [← hw1]
          clear hw1
          go_wp2_with fail
          show bodyPost _ _ _ _ _ (put4 w1 w.heap.size (.int .i64 0) (.int .u64 0) (.int .u64 0) (.slice none 0 0))
          have HX2 := HX.out
          clear HX e0 e1 e2 e3 y0 y1 y2 y3
          generalize put4 w1 w.heap.size (.int .i64 0) (.int .u64 0) (.int .u64 0) (.slice none 0 0) = W2 at *
          exact rtake_ret HX2.2 HX2.1 _ rfl rfl
      · have hx1 : decide ((x : Int) < 1) = true := by simp; omega
        have HX := Lib_hid (HNO.out (by show (if (kindT l s).1 = 0 ∨ 7 < (kindT l s).1 then none else _) = _; rw [hk, if_pos (Or.inl (by simp only; omega))]))
        clear HNO q1 b1 hr hk1 hk hby ih
        go_enter Tryz.func52, Tryz.ntmps52
        go_upto_region 1 with (fail)
        rw [← hw1]
        clear hw1
        go_wp2_with fail
        show bodyPost _ _ _ _ _ (put4 w1 w.heap.size (.int .i64 0) (.int .u64 0) (.int .u64 0) (.slice none 0 0))
        have HX2 := HX.out
        clear HX e0 e1 e2 e3 y0 y1 y2 y3
        generalize put4 w1 w.heap.size (.int .i64 0) (.int .u64 0) (.int .u64 0) (.slice none 0 0) = W2 at *
        exact rtake_ret HX2.2 HX2.1 _ rfl rfl
    · have hsl : decide ((nb : Int) ≤ (s : Int)) = true := by simp; omega
      have HX := Lib_hid (HNO.out (by show (if (kindT l s).1 = 0 ∨ 7 < (kindT l s).1 then none else _) = _; rw [show kindT l s = (0, s) by unfold kindT; rw [if_neg (by omega)], if_pos (Or.inl rfl)]))
      clear HNO q1 b1 hr ih
      go_enter Tryz.func52, Tryz.ntmps52
      go_upto_region 1 with (fail)
      rw [← hw1]
      clear hw1
      go_wp2_with fail
      show bodyPost _ _ _ _ _ (put4 w1 w.heap.size (.int .i64 0) (.int .u64 0) (.int .u64 0) (.slice none 0 0))
      have HX2 := HX.out
      clear HX e0 e1 e2 e3 y0 y1 y2 y3
      generalize put4 w1 w.heap.size (.int .i64 0) (.int .u64 0) (.int .u64 0) (.slice none 0 0) = W2 at *
      exact rtake_ret HX2.2 HX2.1 _ rfl rfl

end Go.Proofs.YtpbmgbeiieapiaaGreatDoor
