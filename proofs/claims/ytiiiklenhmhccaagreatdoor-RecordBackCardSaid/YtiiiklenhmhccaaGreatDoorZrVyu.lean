/-
  Layer 4: the program's Take, where taker.node is known.
  Layer 5: the program's payload: numbers, versions, whether an entry matches, predicates, all by their contracts.
-/
import Derived.Test.YtiiiklenhmhccaaGreatDoorZrSup
import Derived.Test.YtiiiklenhmhccaaGreatDoorZrTqn
import Derived.Test.YtiiiklenhmhccaaGreatDoorZrVyr
import Derived.Test.YtiiiklenhmhccaaGreatDoorZrTtd
import Derived.Test.YtiiiklenhmhccaaGreatDoorZpTbo
import Derived.Test.YtiiiklenhmhccaaGreatDoorZpInk

namespace Go.Proofs.YtiiiklenhmhccaaGreatDoor
open Go Go.RowKit
set_option linter.unusedVariables false
set_option maxRecDepth 100000 in
theorem pTake_ret {Q : Ending → World → Prop} {W : World} {h0 : Nat} {z z2 : Int} {x0 x1 x2 x3 : Value} (HR2 : W.heap[h0]? = some (.cells #[x0, x1, x2, x3] 27 (0, 0))) (HF2 : Q (.returned (.tuple #[.agg #[x0, x1, x2, x3], .int .i64 z, .int .i64 z2])) W)
    (tmps : Array Value) (h2 : tmps.getD 4 undef = .pointer (some ⟨h0, 0, none⟩)) (h3 : tmps.getD 5 undef = .int .i64 z) (h4 : tmps.getD 6 undef = .int .i64 z2) : bodyPost Tryz.prog Tryz.f199 Q .ret { tmps := tmps, defers := [] } W := by
  rw [Array.getD_eq_getD_getElem?] at h2 h3 h4
  have d0 := cell_of_row W _ 0 _ _ _ HR2
  have d1 := cell_of_row W _ 1 _ _ _ HR2
  have d2 := cell_of_row W _ 2 _ _ _ HR2
  have d3 := cell_of_row W _ 3 _ _ _ HR2
  simp at d0 d1 d2 d3
  exact bodyPost_ret (v := .tuple #[.agg #[x0, x1, x2, x3], .int .i64 z, .int .i64 z2]) (by simp [results, Tryz.results199, go_sem, h2, h3, h4, d0, d1, d2, d3]) rfl HF2
set_option maxRecDepth 100000 in
set_option maxHeartbeats 6400000 in
theorem pTake_in {l : List Nat} (Ab : Option Addr) (nb cb : Nat) (OK : TakeOK Ab nb cb l 8) (s : Nat) (B : Nat) (w : World) (hrd : Rd w B 1 Ab nb (bs l)) (hB : B ≤ w.heap.size) :
    Calls Tryz.prog 199 #[.slice Ab nb cb, .int .i64 (s : Int)] w (TkEnd 27 (ansK (takeT l (s : Int))) w) := by
  have hki : tkI l (s : Int) = tkS l 8 s := by unfold tkI; rw [if_neg (by omega), Int.toNat_natCast]
  have hs0 : decide ((s : Int) < 0) = false := by simp
  obtain ⟨w1, hw1⟩ : ∃ w1, w1 = w.alloc (.cells #[.int .i64 0, .int .u64 0, .int .u64 0, .slice none 0 0] 27) := ⟨_, rfl⟩
  have q1 := heap_alloc_new w (.cells #[.int .i64 0, .int .u64 0, .int .u64 0, .slice none 0 0] 27)
  have b1 := below_new w (.cells #[.int .i64 0, .int .u64 0, .int .u64 0, .slice none 0 0] 27)
  have s1 : w1.heap.size = w.heap.size + 1 := by rw [hw1]; simp
  rw [← hw1] at q1 b1
  obtain ⟨w2, hw2⟩ : ∃ w2, w2 = w1.alloc (.cells #[.int .i64 0, .slice Ab nb cb, .int .i64 (s : Int), .bool false] 265) := ⟨_, rfl⟩
  have g2 := heap_alloc_new w1 (.cells #[.int .i64 0, .slice Ab nb cb, .int .i64 (s : Int), .bool false] 265)
  have b2 := below_new w1 (.cells #[.int .i64 0, .slice Ab nb cb, .int .i64 (s : Int), .bool false] 265)
  have s2 : w2.heap.size = w.heap.size + 2 := by rw [hw2]; simp [s1]
  rw [← hw2] at g2 b2
  rw [s1] at g2 b2
  have g2 : w2.heap[w.heap.size + 1]? = some (TkrC 0 Ab nb cb (s : Int) false) := g2
  have q2 := (b2.block w.heap.size (by omega)).trans q1
  have hbw := b1.trans (b2.mono (by omega))
  have ND := OK 0 s false B (w.heap.size + 1) w2 g2 (hrd.below (hbw.mono hB)) (by omega) (fun _ => by omega) (by omega)
  have ND : Calls Tryz.prog 233 #[.pointer (some ⟨w.heap.size + 1, 0, none⟩), .int .i64 1] w2 (TdEnd Ab nb cb l 8 0 s false (w.heap.size + 1) w2) := ND
  have HOK : Hid (∀ t r, tkS l 8 s = some (t, r) → t.rightB = true → ansK (takeT l (s : Int)) = (t, r, 0)) := fun t r h1 h2 => by unfold takeT; rw [hki, h1]; simp [h2, ansK]
  have HNO : Hid ((∀ t r, tkS l 8 s = some (t, r) → t.rightB = false) → ansK (takeT l (s : Int)) = (.node 0 0 0 [], 0, 40)) := fun h => by
    unfold takeT
    rw [hki]
    cases h8 : tkS l 8 s with
    | none => rfl
    | some x =>
      obtain ⟨t, r⟩ := x
      simp [h t r h8, ansK]
  generalize ansK (takeT l (s : Int)) = o at *
  have HB2 := Lib_hid (And.intro hbw s2)
  have HBADEND : Hid (∀ W : World, W.heap[w.heap.size]? = some (.cells #[.int .i64 0, .int .u64 0, .int .u64 0, .slice none 0 0] 27 (0, 0)) → Below w.heap.size w W → (∀ t r, tkS l 8 s = some (t, r) → t.rightB = false) →
      TkEnd 27 o w (.returned (.tuple #[.agg #[.int .i64 0, .int .u64 0, .int .u64 0, .slice none 0 0], .int .i64 0, .int .i64 40])) (put4 W w.heap.size (.int .i64 0) (.int .u64 0) (.int .u64 0) (.slice none 0 0)) ∧
      (put4 W w.heap.size (.int .i64 0) (.int .u64 0) (.int .u64 0) (.slice none 0 0)).heap[w.heap.size]? = some (.cells #[.int .i64 0, .int .u64 0, .int .u64 0, .slice none 0 0] 27 (0, 0))) := by
    intro W h1 h2 h3
    rw [HNO.out h3]
    exact ⟨⟨.node 0 0 0 none 0 [], rfl, by simp [V.abs, V.absL], zero_lies _ _ _, zero_shp _ _ _, put4_below h2 (Nat.le_refl _) _ _ _ _⟩, put4_row h1 _ _ _ _⟩
  subst hw2 hw1
  clear b1 b2 q1 g2 hbw hrd OK hki
  go_enter Tryz.func199, Tryz.ntmps199
  go_upto_region 4 with (fail)
  generalize (w.alloc _).alloc (.cells #[.int .i64 0, .slice Ab nb cb, .int .i64 (s : Int), .bool false] 265) = w2 at *
  go_wp2_with fail
  refine ND.mono ?_
  rintro e w3 ⟨k, a, b, n, c, m', A, s', bad', rfl, hgr3, hg3, hR⟩
  have hb3 : Below w.heap.size w w3 := HB2.out.1.trans (⟨hgr3.os, hgr3.tape, hgr3.output, hgr3.size, fun i hi => hgr3.block i (by have := HB2.out.2; omega) (fun e => by injection e with e; omega)⟩ : Below w.heap.size w2 w3)
  have q3 := (hgr3.block w.heap.size (by have := HB2.out.2; omega) (fun e => by injection e with e; omega)).trans q2
  have s3 := hgr3.size
  have b4 := below_new w3 (.cells #[.int .i64 k, .int .u64 (a : Int), .int .u64 (b : Int), .slice A n c] 27)
  have r4 := heap_alloc_new w3 (.cells #[.int .i64 k, .int .u64 (a : Int), .int .u64 (b : Int), .slice A n c] 27)
  have q4 := (b4.block w.heap.size (by have := HB2.out.2; omega)).trans q3
  have g4 := (b4.block (w.heap.size + 1) (by have := HB2.out.2; omega)).trans hg3
  have hb4 := hb3.trans (b4.mono (by have := HB2.out.2; omega))
  have s4 : (w3.alloc (.cells #[.int .i64 k, .int .u64 (a : Int), .int .u64 (b : Int), .slice A n c] 27)).heap.size = w3.heap.size + 1 := by simp
  obtain ⟨hm, hok⟩ := hR.ok rfl
  have HB4B := Lib_hid b4
  have HL4 : Hid (bad' = false → ∃ t us, tkS l 8 s = some (t, s') ∧ (V.node k a b A c us).abs = t ∧ us.length = n ∧ Lies w3 w2.heap.size w3.heap.size (.node k a b A c us) ∧ Shp 27 w3 w2.heap.size (.node k a b A c us) ∧ t.count ≤ 32) := by
    intro hb
    rcases hok with ⟨t, us, e1, e2, e3, e4, e5, e6, e7, e8⟩ | ⟨_, h⟩
    · exact ⟨t, us, e1, e5, e6, e7, e8, by omega⟩
    · rw [h] at hb; cases hb
  have HBB : Hid (bad' = true → ∀ t r, tkS l 8 s = some (t, r) → t.rightB = false) := by
    intro hb t r' ht
    rcases hok with ⟨t', us, e1, e2, e3, e4, e5, e6, e7, e8⟩ | ⟨h, _⟩
    · rw [hb] at e3; cases e3
    · have := h t r' ht
      cases hr : t.rightB with
      | false => rfl
      | true => have := (right_all hr).2; omega
  clear ND hR hok hm hb3 q3 hg3 b4 q2 hgr3
  go_upto_region 5 with (fail)
  generalize w3.alloc (.cells #[.int .i64 k, .int .u64 (a : Int), .int .u64 (b : Int), .slice A n c] 27) = w4 at *
  have c1 := cell_of_row w4 _ 3 _ _ _ g4
  simp at c1
  cases bad' with
  | true =>
    have e0 := cell_of_row w4 _ 0 _ _ _ q4
    have e1 := cell_of_row w4 _ 1 _ _ _ q4
    have e2 := cell_of_row w4 _ 2 _ _ _ q4
    have e3 := cell_of_row w4 _ 3 _ _ _ q4
    have y0 := frozen_of_row w4 w.heap.size 0 _ _ q4
    have y1 := frozen_of_row w4 w.heap.size 1 _ _ q4
    have y2 := frozen_of_row w4 w.heap.size 2 _ _ q4
    have y3 := frozen_of_row w4 w.heap.size 3 _ _ q4
    simp at e0 e1 e2 e3
    have HX := Lib_hid (HBADEND.out w4 q4 hb4 (HBB.out rfl))
    clear q4 hb4
    go_wp2_with fail
    show bodyPost _ _ _ _ _ (put4 w4 w.heap.size (.int .i64 0) (.int .u64 0) (.int .u64 0) (.slice none 0 0))
    have HX2 := HX.out
    clear HX HBADEND e0 e1 e2 e3 y0 y1 y2 y3
    generalize put4 w4 w.heap.size (.int .i64 0) (.int .u64 0) (.int .u64 0) (.slice none 0 0) = W2 at *
    exact pTake_ret (z := 0) (z2 := 40) HX2.2 HX2.1 _ rfl rfl rfl
  | false =>
    · obtain ⟨t, us, e1, e2, rfl, hL, hS, hct⟩ := HL4.out rfl
      have hL4 := hL.under (HB4B.out.mono (Nat.le_refl _))
      have RR := pright_any (.node k a b A c us) w4 _ _ hL4 (by omega)
      rw [e2] at RR
      simp only [V.val, V.kind, V.a, V.b, V.sl, V.addr, V.parts, V.cap] at RR
      have d0 := cell_of_row w4 _ 0 _ _ _ r4
      have d1 := cell_of_row w4 _ 1 _ _ _ r4
      have d2 := cell_of_row w4 _ 2 _ _ _ r4
      have d3 := cell_of_row w4 _ 3 _ _ _ r4
      simp at d0 d1 d2 d3
      have HLS := Lib_hid (And.intro e1 (And.intro e2 (And.intro hL4 (hS.under HB4B.out))))
      clear e1 e2 hL hS hL4 HL4 hct HBB
      generalize hn : us.length = n at *
      have HUS := Lib_hid hn
      clear hn
      go_wp2_with fail
      refine RR.mono ?_
      rintro e w5 ⟨rfl, hb5⟩
      have q5 := (hb5.block w.heap.size (by omega)).trans q4
      have r5 := (hb5.block w3.heap.size (by omega)).trans r4
      have hbw5 := hb4.trans (hb5.mono hb4.size)
      have g5 := (hb5.block (w.heap.size + 1) (by have := HB2.out.2; omega)).trans g4
      have c5 := cell_of_row w5 _ 2 _ _ _ g5
      simp at c5
      clear g4 g5
      have HB5 := Lib_hid hb5
      clear RR d0 d1 d2 d3 c1 q4 r4 hb4 hb5
      cases hr : t.rightB with
      | true =>
        obtain ⟨e1, e2, hL4, hS4⟩ := HLS.out
        have HX : Hid (TkEnd 27 o w (.returned (.tuple #[.agg #[.int .i64 k, .int .u64 (a : Int), .int .u64 (b : Int), .slice A n c], .int .i64 (s' : Int), .int .i64 0])) (put4 w5.drew w.heap.size (.int .i64 k) (.int .u64 (a : Int)) (.int .u64 (b : Int)) (.slice A n c)) ∧
            (put4 w5.drew w.heap.size (.int .i64 k) (.int .u64 (a : Int)) (.int .u64 (b : Int)) (.slice A n c)).heap[w.heap.size]? = some (.cells #[.int .i64 k, .int .u64 (a : Int), .int .u64 (b : Int), .slice A n c] 27 (0, 0))) := by
          have h2s := HB2.out.2
          have h5s := HB5.out.size
          have hdz : w5.drew.heap.size = w5.heap.size := rfl
          rw [HOK.out t s' e1 hr]
          refine ⟨⟨.node k a b A c us, by rw [← HUS.out]; rfl, e2, ?_, ?_, put4_below (below_like4 hbw5 rfl rfl rfl rfl : Below w.heap.size w w5.drew) (Nat.le_refl _) _ _ _ _⟩, put4_row (w := w5.drew) q5 _ _ _ _⟩
          · rw [put4_size]
            exact (((hL4.under (HB5.out.mono (by omega))).under (below_like4 (Below.refl _ _) rfl rfl rfl rfl : Below _ w5 w5.drew)).keep fun p h1 _ => World.cell?_of_block (put4_else w5.drew (by omega) _ _ _ _)).more (by omega) (by omega)
          · exact (Shp.keepL _ (hL4.under (HB5.out.mono (by omega))) (hS4.under HB5.out) fun g' h1 _ => put4_else w5.drew (by omega) _ _ _ _).more (by omega)
        have e0 := cell_of_row w5 _ 0 _ _ _ q5
        have e1 := cell_of_row w5 _ 1 _ _ _ q5
        have e2 := cell_of_row w5 _ 2 _ _ _ q5
        have e3 := cell_of_row w5 _ 3 _ _ _ q5
        have y0 := frozen_of_row w5 w.heap.size 0 _ _ q5
        have y1 := frozen_of_row w5 w.heap.size 1 _ _ q5
        have y2 := frozen_of_row w5 w.heap.size 2 _ _ q5
        have y3 := frozen_of_row w5 w.heap.size 3 _ _ q5
        have f0 := cell_of_row w5 _ 0 _ _ _ r5
        have f1 := cell_of_row w5 _ 1 _ _ _ r5
        have f2 := cell_of_row w5 _ 2 _ _ _ r5
        have f3 := cell_of_row w5 _ 3 _ _ _ r5
        simp at e0 e1 e2 e3 f0 f1 f2 f3
        clear q5 r5 hbw5 hL4 hS4 HLS
        go_wp2_with fail
        go_region
        go_wp2_with fail
        show bodyPost _ _ _ _ _ (put4 w5.drew w.heap.size (.int .i64 k) (.int .u64 (a : Int)) (.int .u64 (b : Int)) (.slice A n c))
        have HX2 := HX.out
        clear HX HBADEND e0 e1 e2 e3 y0 y1 y2 y3 f0 f1 f2 f3
        generalize put4 w5.drew w.heap.size (.int .i64 k) (.int .u64 (a : Int)) (.int .u64 (b : Int)) (.slice A n c) = W2 at *
        exact pTake_ret (z := (s' : Int)) (z2 := 0) HX2.2 HX2.1 _ rfl rfl rfl
      | false =>
        have hno : ∀ t' r', tkS l 8 s = some (t', r') → t'.rightB = false := fun t' r' h => by
          have := HLS.out.1
          rw [h] at this
          injection this with this
          injection this with this _
          rw [this]; exact hr
        have e0 := cell_of_row w5 _ 0 _ _ _ q5
        have e1 := cell_of_row w5 _ 1 _ _ _ q5
        have e2 := cell_of_row w5 _ 2 _ _ _ q5
        have e3 := cell_of_row w5 _ 3 _ _ _ q5
        have y0 := frozen_of_row w5 w.heap.size 0 _ _ q5
        have y1 := frozen_of_row w5 w.heap.size 1 _ _ q5
        have y2 := frozen_of_row w5 w.heap.size 2 _ _ q5
        have y3 := frozen_of_row w5 w.heap.size 3 _ _ q5
        simp at e0 e1 e2 e3
        have HX := Lib_hid (HBADEND.out w5 q5 hbw5 hno)
        clear q5 hbw5
        go_wp2_with fail
        show bodyPost _ _ _ _ _ (put4 w5 w.heap.size (.int .i64 0) (.int .u64 0) (.int .u64 0) (.slice none 0 0))
        have HX2 := HX.out
        clear HX HBADEND e0 e1 e2 e3 y0 y1 y2 y3
        generalize put4 w5 w.heap.size (.int .i64 0) (.int .u64 0) (.int .u64 0) (.slice none 0 0) = W2 at *
        exact pTake_ret (z := 0) (z2 := 40) HX2.2 HX2.1 _ rfl rfl rfl
set_option maxRecDepth 100000 in
set_option maxHeartbeats 1600000 in
theorem pTake_neg {l : List Nat} (Ab : Option Addr) (nb cb : Nat) (s : Int) (hs : s < 0) (w : World) :
    Calls Tryz.prog 199 #[.slice Ab nb cb, .int .i64 s] w (TkEnd 27 (ansK (takeT l s)) w) := by
  have hki : takeT l s = none := by unfold takeT tkI; rw [if_pos hs]; rfl
  have hs0 : decide (s < 0) = true := by simpa using hs
  obtain ⟨w1, hw1⟩ : ∃ w1, w1 = w.alloc (.cells #[.int .i64 0, .int .u64 0, .int .u64 0, .slice none 0 0] 27) := ⟨_, rfl⟩
  have q1 := heap_alloc_new w (.cells #[.int .i64 0, .int .u64 0, .int .u64 0, .slice none 0 0] 27)
  have b1 := below_new w (.cells #[.int .i64 0, .int .u64 0, .int .u64 0, .slice none 0 0] 27)
  rw [← hw1] at q1 b1
  have y0 := frozen_of_row w1 w.heap.size 0 _ _ q1
  have y1 := frozen_of_row w1 w.heap.size 1 _ _ q1
  have y2 := frozen_of_row w1 w.heap.size 2 _ _ q1
  have y3 := frozen_of_row w1 w.heap.size 3 _ _ q1
  have e0 := cell_of_row w1 _ 0 _ _ _ q1
  have e1 := cell_of_row w1 _ 1 _ _ _ q1
  have e2 := cell_of_row w1 _ 2 _ _ _ q1
  have e3 := cell_of_row w1 _ 3 _ _ _ q1
  simp at e0 e1 e2 e3
  have HX : Hid (TkEnd 27 (ansK (takeT l s)) w (.returned (.tuple #[.agg #[.int .i64 0, .int .u64 0, .int .u64 0, .slice none 0 0], .int .i64 0, .int .i64 40])) (put4 w1 w.heap.size (.int .i64 0) (.int .u64 0) (.int .u64 0) (.slice none 0 0)) ∧
      (put4 w1 w.heap.size (.int .i64 0) (.int .u64 0) (.int .u64 0) (.slice none 0 0)).heap[w.heap.size]? = some (.cells #[.int .i64 0, .int .u64 0, .int .u64 0, .slice none 0 0] 27 (0, 0))) := by
    rw [hki]
    exact ⟨⟨.node 0 0 0 none 0 [], rfl, by simp [V.abs, V.absL, ansK], zero_lies _ _ _, zero_shp _ _ _, put4_below b1 (Nat.le_refl _) _ _ _ _⟩, put4_row q1 _ _ _ _⟩
  generalize ansK (takeT l s) = o at *
  clear q1 b1 hki
  go_enter Tryz.func199, Tryz.ntmps199
  go_upto_region 1 with (fail)
  rw [← hw1]
  clear hw1
  go_wp2_with fail
  show bodyPost _ _ _ _ _ (put4 w1 w.heap.size (.int .i64 0) (.int .u64 0) (.int .u64 0) (.slice none 0 0))
  have HX2 := HX.out
  clear HX e0 e1 e2 e3 y0 y1 y2 y3
  generalize put4 w1 w.heap.size (.int .i64 0) (.int .u64 0) (.int .u64 0) (.slice none 0 0) = W2 at *
  exact pTake_ret (z := 0) (z2 := 40) HX2.2 HX2.1 _ rfl rfl rfl
theorem pTakeO_any {l : List Nat} (Ab : Option Addr) (nb cb : Nat) (OK : TakeOK Ab nb cb l 8) (s : Int) (B : Nat) (w : World) (hrd : Rd w B 1 Ab nb (bs l)) (hB : B ≤ w.heap.size) :
    Calls Tryz.prog 199 #[.slice Ab nb cb, .int .i64 s] w (TkEnd 27 (ansK (takeT l s)) w) := by
  by_cases hs : s < 0
  · exact pTake_neg Ab nb cb s hs w
  · obtain ⟨a, rfl⟩ : ∃ a : Nat, s = (a : Int) := ⟨s.toNat, by omega⟩
    exact pTake_in Ab nb cb OK a B w hrd hB
end Go.Proofs.YtiiiklenhmhccaaGreatDoor

namespace Go.Proofs.YtiiiklenhmhccaaGreatDoor
open Go Go.RowKit
set_option linter.unusedVariables false
theorem read5_any (B : Nat) (A : Option Addr) (n c : Nat) (l : List Nat) (w : World) (h : Rd w B 1 A n (bs l)) (hb : ∀ x ∈ l, x < 256) (hn : n ≤ 100000) (hB : B ≤ w.heap.size) :
    Calls Tryz.prog 62 #[.slice A n c] w fun en w' => ∃ g A' c', en = .returned (.pointer (some ⟨g, 0, none⟩)) ∧ w.heap.size ≤ g ∧ Rr 167 w' g A' l.length c' l 0 0 ∧ Below w.heap.size w w' ∧ ∀ ad, A' = some ad → 0 < l.length → w.heap.size ≤ ad.block := by
  have C := clone_any B A n c l w h (by omega) hB
  have hl := h.count
  subst hl
  go_enter Tryz.func62, Tryz.ntmps62
  go_wp2_with (go_at_call 75; refine C.mono ?_; rintro e w1 ⟨A1, c1, rfl, ho1, hb1⟩)
  go_ret
  have hc := own_cap ho1
  exact ⟨w1.heap.size, A1, c1, rfl, hb1.size, ⟨heap_alloc_new w1 _, (Rd.own ho1).alloc (Nat.le_refl _) _, hc, hb, hn, Nat.zero_le _, by omega⟩, hb1.alloc hb1.size _, fun ad e hn => by
    obtain ⟨gg, cap, hv, hgg, hlt⟩ := ho1.form hn
    have hA : A1 = some ⟨gg, 0, none⟩ := by injection hv
    rw [hA] at e
    injection e with e
    subst e
    have := own_ge ho1 gg (by rw [hA]; rfl)
    exact this⟩
theorem PlS.aside {g h n c a e q : Nat} {A : Option Addr} {l : List Nat} {bad : Bool} {w w' : World} {arr : Array Value} {E : TypeId} (p : PlS g h A n c l a e bad w) (r : RowSet w w' q arr E) (h1 : g < q) (h2 : h < q) : PlS g h A n c l a e bad w' :=
  ⟨(r.other g (by omega)).trans p.box, ⟨(r.other h (by omega)).trans p.rd.blk, p.rd.rd.keep fun x hx => World.cell?_of_block (r.other x.block (by omega)), p.rd.nc, p.rd.b8, p.rd.len, p.rd.place, p.rd.err⟩, p.lt⟩
theorem rowset4 {w : World} {g : Nat} {E : TypeId} {x0 x1 x2 x3 : Value} (y0 y1 y2 y3 : Value) (h : w.heap[g]? = some (.cells #[x0, x1, x2, x3] E (0, 0))) : RowSet w (put4 w g y0 y1 y2 y3) g #[y0, y1, y2, y3] E :=
  ⟨rfl, rfl, rfl, put4_size w g _ _ _ _, put4_row h _ _ _ _, fun k hk => put4_else w hk _ _ _ _⟩
instance goodDec (e : Nat) (bad : Bool) : Decidable (GoodB e bad) := by unfold GoodB; exact inferInstance
section
variable {g h n c a e : Nat} {A : Option Addr} {l : List Nat} {bad : Bool} {w : World}
theorem pnum_any (p : PlS g h A n c l a e bad w) : Calls Tryz.prog 107 #[.pointer (some ⟨h, 0, none⟩)] w fun en w' =>
    ∃ v a' e' : Nat, en = .returned (.int .u64 (v : Int)) ∧ v < 18446744073709551616 ∧ PlS g h A n c l a' e' bad w' ∧ RStp w w' h ∧ Took (numT l a) e bad v a' e' bad := by
  obtain ⟨⟨a', e', v⟩, hS⟩ : ∃ x, numR l a e = x := ⟨_, rfl⟩
  have hle := numR_le p.rd.b8 p.rd.place p.rd.err hS
  refine (number_any h A n c a e l w p.rd a' e' v hS).mono ?_
  rintro en w' ⟨rfl, hr⟩
  exact ⟨v, a', e', rfl, by omega, p.step hr, hr.2, num_took hS bad⟩
theorem perr_any (p : PlS g h A n c l a e bad w) : Calls Tryz.prog 96 #[.pointer (some ⟨h, 0, none⟩)] w fun en w' => en = .returned (.int .i64 (e : Int)) ∧ w = w' := err_any h A n c a e l w p.rd
set_option maxRecDepth 100000 in
set_option maxHeartbeats 1600000 in
theorem pgood_any (p : PlS g h A n c l a e bad w) : Calls Tryz.prog 63 #[.pointer (some ⟨g, 0, none⟩)] w fun en w' => en = .returned (.bool (decide (GoodB e bad))) ∧ w' = w := by
  obtain ⟨c0, c1, -, -⟩ := p.cells
  have HE := perr_any p
  have HG : Hid (decide (GoodB e bad) = (!bad && decide (e = 0))) := by
    unfold Hid GoodB
    rw [Bool.eq_iff_iff]
    cases bad <;> simp
  have hee : ((e : Int) == 0) = decide (e = 0) := by rw [Bool.eq_iff_iff]; simp
  generalize decide (GoodB e bad) = z at *
  clear p
  cases bad with
  | true =>
    have hz : z = false := HG.out
    go_enter Tryz.func63, Tryz.ntmps63
    go_wp2
    go_ret
    exact ⟨ret_b hz.symm, rfl⟩
  | false =>
    have hz : z = decide (e = 0) := HG.out
    go_enter Tryz.func63, Tryz.ntmps63
    go_wp2_with fail
    refine HE.mono ?_
    rintro en w' ⟨rfl, rfl⟩
    go_wp2
    go_ret
    exact ⟨ret_b (by rw [hz]), rfl⟩
set_option maxRecDepth 100000 in
set_option maxHeartbeats 3200000 in
theorem pver_any (p : PlS g h A n c l a e bad w) : Calls Tryz.prog 122 #[.pointer (some ⟨g, 0, none⟩)] w fun en w' =>
    ∃ v1 v2 a' e' : Nat, en = .returned (.agg #[.int .u64 (v1 : Int), .int .u64 (v2 : Int)]) ∧ (v1 < 18446744073709551616 ∧ v2 < 18446744073709551616) ∧ PlS g h A n c l a' e' bad w' ∧ Grow2 w w' g h ∧ Took (verT l a) e bad (v1, v2) a' e' bad := by
  have hsz : (Tryz.prog.info? 24).map (·.size) = some 2 := by kernel_rfl
  have hq1 := heap_alloc_new w (.cells #[.int .u64 0, .int .u64 0] 24)
  have hn1 := below_new w (.cells #[.int .u64 0, .int .u64 0] 24)
  have p1 := p.kept hn1
  have hgl := p.gl
  have hhg := p.lt
  go_enter Tryz.func122, Tryz.ntmps122
  go_upto_region 1 with (fail)
  generalize w.alloc (.cells #[.int .u64 0, .int .u64 0] 24) = w1 at *
  obtain ⟨c0, -, -, -⟩ := p1.cells
  have hs1 := lt_of_block hq1
  go_region_held3 (fun W => W.cell? ⟨g, 0, none⟩ = some (.pointer (some ⟨h, 0, none⟩))) (first | exact c0 | exact (World.cell?_of_block (by rw [Below.heap_setCell _ ⟨w.heap.size, 1, none⟩ _ g (by show g ≠ w.heap.size; omega), Below.heap_setCell _ ⟨w.heap.size, 0, none⟩ _ g (by show g ≠ w.heap.size; omega)])).trans p3.cells.1 | exact p3.cells.1 | exact p2.cells.1)
    ((first | (go_at_call 107; have hq := ht2; ((with_reducible refine (pnum_any p2').mono ?_); rintro en w3 ⟨v2, a2, e2, rfl, hv2, p3, hs3, ht3⟩; have hq3 := (hs3.block w.heap.size (lt_of_block hq2) (by omega)).trans hq2; have d0 := cell_of_row w3 w.heap.size 0 _ _ _ hq3; have d1 := cell_of_row w3 w.heap.size 1 _ _ _ hq3; have z0 := frozen_of_row w3 w.heap.size 0 _ _ hq3; have z1 := frozen_of_row w3 w.heap.size 1 _ _ hq3)) | (go_at_call 107; ((with_reducible refine (pnum_any (p1.kept (by exact below_like4 (Below.refl _ _) rfl rfl rfl rfl))).mono ?_); rintro en w2 ⟨v1, a1, e1, rfl, hv1, p2, hs2, ht2⟩; have p2' := p2; have hq2 := (hs2.block w.heap.size (by exact hs1) (by omega)).trans (show _ = _ from hq1)))))
  all_goals
    have hqf := rowset2 (.int .u64 (v1 : Int)) (.int .u64 (v2 : Int)) hq3
    have p4 : PlS g h A n c l a2 e2 bad ((w3.setCell ⟨w.heap.size, 0, none⟩ (.int .u64 (v1 : Int))).setCell ⟨w.heap.size, 1, none⟩ (.int .u64 (v2 : Int))) := p3.aside hqf (by omega) (by omega)
    have hG : Grow2 w ((w3.setCell ⟨w.heap.size, 0, none⟩ (.int .u64 (v1 : Int))).setCell ⟨w.heap.size, 1, none⟩ (.int .u64 (v2 : Int))) g h := by
      have k1 := (Grow2.ofB hn1 (a := g) (b := h)).trans ((show Grow2 w1 w2 g h from ⟨hs2.os, hs2.tape, hs2.output, hs2.size, fun k k1 _ k3 => hs2.block k k1 k3⟩).trans (hs3.grow2 g))
      exact ⟨hqf.os.trans k1.os, hqf.tape.trans k1.tape, hqf.output.trans k1.output, by rw [hqf.size]; exact k1.size, fun k h1 h2 h3 => (hqf.other k (by omega)).trans (k1.block k h1 h2 h3)⟩
    have hT : Took (verT l a) e bad (v1, v2) a2 e2 bad := by
      unfold verT
      refine Took.bind ht2 ?_
      exact Took.map (g := fun y : Nat × Nat => ((v1, y.1), y.2)) (fun v => (v1, v)) (fun _ _ => rfl) ht3
    have HF := Lib_hid (And.intro p4 (And.intro hG hT))
    have hrow := hqf.row
    clear p3 p2 p2' ht2 ht3 hs2 hs3 hq2 hq3 hq p1 hqf p4 hG hT d0 d1 z0 z1
    go_wp2
    exact bodyPost_ret (results_cell_row (p := 2) (ty := 24) rfl _ _ w.heap.size 24 #[.int .u64 (v1 : Int), .int .u64 (v2 : Int)] (0, 0) _ rfl hrow Tryz.underlying24 rfl hsz) rfl ⟨v1, v2, a2, e2, rfl, ⟨hv1, hv2⟩, HF.out.1, HF.out.2.1, HF.out.2.2⟩
set_option maxRecDepth 100000 in
set_option maxHeartbeats 1600000 in
theorem pmatch_any (p : PlS g h A n c l a e bad w) : Calls Tryz.prog 179 #[.pointer (some ⟨g, 0, none⟩)] w fun en w' =>
    ∃ (m : Bool) (a' e' : Nat) (bad' : Bool), en = .returned (.bool m) ∧ PlS g h A n c l a' e' bad' w' ∧ Grow2 w w' g h ∧ Took (matT l a) e bad m a' e' bad' := by
  obtain ⟨c0, c1, -, -⟩ := p.cells
  obtain ⟨⟨a', e', m⟩, hS⟩ : ∃ x, rawS l a e 1 = x := ⟨_, rfl⟩
  have hT := raw_took hS p.rd.place bad
  have RW := raw_any h A n c a e l 1 w p.rd (by omega)
  rw [hS] at RW
  have HP := Lib_hid p
  clear p c1
  go_enter Tryz.func179, Tryz.ntmps179
  go_wp2_with fail
  refine RW.mono ?_
  rintro en w1 ⟨A1, c1, rfl, ho1, hr1⟩
  have p1 := HP.out.step hr1
  have hg1 := hr1.2.grow2 g
  obtain ⟨-, d1, -, y1⟩ := p1.cells
  have hrd1 := Rd.own ho1
  clear RW c0 HP hr1 hS
  rcases hT with ⟨hm, hb, ht⟩ | ⟨cc, hm, he1, he2, hcc, ht1, ht2⟩
  · subst hm
    have HF : Hid (PlS g h A n c l a' e' true (w1.setCell ⟨g, 1, none⟩ (.bool true)) ∧ Grow2 w (w1.setCell ⟨g, 1, none⟩ (.bool true)) g h ∧ Took (matT l a) e bad false a' e' true) := ⟨p1.spoilt true, hg1.trans (Grow2.set w1 g h 1 _), ht⟩
    clear p1 hg1 ht hb hrd1 ho1
    go_wp2
    go_ret
    exact ⟨false, a', e', true, rfl, HF.out⟩
  · subst hm
    have hcell := hrd1.byte (k := 0) (by show 0 < 1; omega)
    obtain ⟨ad, hA, -, hc0⟩ := hcell
    subst hA
    obtain ⟨gg, cap, hv, -, -⟩ := ho1.form (by show 0 < 1; omega)
    have hag : ad = ⟨gg, 0, none⟩ := by injection hv with hv; injection hv
    subst hag
    have hc0 : w1.cell? ⟨gg, 0, none⟩ = some (.int .u8 (cc : Int)) := hc0
    by_cases h1 : 1 < cc
    · have h1i : (1 : Int) < (cc : Int) := by omega
      have HF : Hid (PlS g h A n c l a' e' true (w1.setCell ⟨g, 1, none⟩ (.bool true)) ∧ Grow2 w (w1.setCell ⟨g, 1, none⟩ (.bool true)) g h ∧ Took (matT l a) e bad false a' e' true) := ⟨p1.spoilt true, hg1.trans (Grow2.set w1 g h 1 _), ht1 h1⟩
      clear p1 hg1 ht1 ht2 hrd1 ho1 hv hcc he1 he2 h1
      go_wp2
      go_ret
      exact ⟨false, a', e', true, rfl, HF.out⟩
    · have h1i : ¬ (1 : Int) < (cc : Int) := by omega
      have HF : Hid (PlS g h A n c l a' e' bad w1 ∧ Grow2 w w1 g h ∧ Took (matT l a) e bad (cc == 1) a' e' bad) := ⟨p1, hg1, ht2 (by omega)⟩
      have HB : Hid (((cc : Int) == 1) = (cc == 1)) := Lib_hid (by rw [Bool.eq_iff_iff]; simp; omega)
      clear p1 hg1 ht1 ht2 hrd1 ho1 hv hcc he1 he2 h1
      go_wp2
      go_ret
      exact ⟨cc == 1, a', e', bad, ret_b HB.out, HF.out⟩
theorem pparse4_any (w : World) (B : Nat) (A2 : Option Addr) (m c2 : Nat) (s : List Nat) (h1 : Rd w B 1 A2 m (bs s)) (hB : B ≤ w.heap.size) (hb8 : ∀ x ∈ s, x < 256) (hnc : m ≤ c2 ∧ c2 ≤ 9223372036854775807) :
    Calls Tryz.prog 173 #[.slice A2 m c2] w (AnsEnd 27 (ansT (parseT s)) w) :=
  pParse_any s A2 m c2 h1.count w fun W hW => pTakeO_any A2 m c2 (tnode_any A2 m c2 s hb8 hnc 8 (Nat.le_refl _)) 0 B W (h1.below (hW.mono hB)) (Nat.le_trans hB hW.size)
set_option maxRecDepth 100000 in
set_option maxHeartbeats 3200000 in
theorem ppred_any (p : PlS g h A n c l a e bad w) : Calls Tryz.prog 138 #[.pointer (some ⟨g, 0, none⟩)] w fun en w' =>
    ∃ (u : V) (a' e' : Nat) (bad' : Bool), en = .returned u.val ∧ Lies w' w.heap.size w'.heap.size u ∧ Shp 27 w' w.heap.size u ∧ PlS g h A n c l a' e' bad' w' ∧ Grow2 w w' g h ∧ Took ((txtT l a).bind fun x => (parseT x.1).map fun t => (t, x.2)) e bad u.abs a' e' bad' := by
  obtain ⟨c0, -, -, -⟩ := p.cells
  have hsz : (Tryz.prog.info? 27).map (·.size) = some 4 := by kernel_rfl
  have hq1 := heap_alloc_new w (.cells #[.int .i64 0, .int .u64 0, .int .u64 0, .slice none 0 0] 27)
  have hn1 := below_new w (.cells #[.int .i64 0, .int .u64 0, .int .u64 0, .slice none 0 0] 27)
  have p1 := p.kept hn1
  have hgl := p.gl
  have hhg := p.lt
  obtain ⟨⟨a', e', s⟩, hS⟩ : ∃ x, textS l a e = x := ⟨_, rfl⟩
  have hT := text_took hS bad
  have hb8 : ∀ x ∈ s, x < 256 := by
    intro x hx
    unfold textS at hS
    split at hS
    · injection hS with _ hS; injection hS with _ hS; rw [← hS] at hx; cases hx
    · split at hS
      · injection hS with _ hS; injection hS with _ hS; rw [← hS] at hx; cases hx
      · injection hS with _ hS; injection hS with _ hS; rw [← hS] at hx; exact p.rd.b8 x (List.mem_of_mem_drop (List.mem_of_mem_take hx))
  have TX := text_any h A n c a e l (w.alloc (.cells #[.int .i64 0, .int .u64 0, .int .u64 0, .slice none 0 0] 27)) p1.rd
  rw [hS] at TX
  have HB8 := Lib_hid hb8
  clear hS hb8 p c0
  go_enter Tryz.func138, Tryz.ntmps138
  go_upto_region 1 with (fail)
  generalize w.alloc (.cells #[.int .i64 0, .int .u64 0, .int .u64 0, .slice none 0 0] 27) = w1 at *
  obtain ⟨c0, -, -, -⟩ := p1.cells
  have hs1 := lt_of_block hq1
  go_wp2_with fail
  refine TX.mono ?_
  rintro en w2 ⟨A2, c2, rfl, ho2, hr2⟩
  have p2 := p1.step hr2
  have hq2 := (hr2.2.block w.heap.size hs1 (by omega)).trans hq1
  have hG2 : Grow2 w w2 g h := (Grow2.ofB hn1 (a := g) (b := h)).trans (hr2.2.grow2 g)
  have PP := pparse4_any w2 _ A2 s.length c2 s (Rd.own ho2) (Nat.le_refl _) HB8.out (own_cap ho2)
  have hs2 := lt_of_block hq2
  clear TX c0 p1 hr2 ho2 hq1 hn1
  go_wp2_with fail
  refine PP.mono ?_
  rintro en w3 ⟨u, rfl, hua, huL, huS, hb3⟩
  have p3 := p2.kept hb3
  have hq3 := (hb3.block _ hs2).trans hq2
  have hG3 := hG2.trans (Grow2.ofB hb3 (a := g) (b := h))
  have hs3 := hb3.size
  have hq4 := heap_alloc_new w3 (.cells #[.int .i64 u.kind, .int .u64 (u.a : Int), .int .u64 (u.b : Int), u.sl] 27)
  have hn4 := below_new w3 (.cells #[.int .i64 u.kind, .int .u64 (u.a : Int), .int .u64 (u.b : Int), u.sl] 27)
  have p4 := p3.kept hn4
  have hq3b := (hn4.block _ (lt_of_block hq3)).trans hq3
  have hG4 := hG3.trans (Grow2.ofB hn4 (a := g) (b := h))
  have hL4 := huL.under hn4
  have hS4 := huS.under (hn4.mono (Nat.le_refl _))
  have hs4 : (w3.alloc (.cells #[.int .i64 u.kind, .int .u64 (u.a : Int), .int .u64 (u.b : Int), u.sl] 27)).heap.size > w3.heap.size := by simp
  have HAN : Hid ((parseT s = some u.abs ∧ (ansT (parseT s)).2 = 0) ∨ (parseT s = none ∧ (ansT (parseT s)).2 = 40)) := by
    unfold Hid
    cases hp : parseT s with
    | none => exact .inr ⟨rfl, rfl⟩
    | some t => rw [hp] at hua; exact .inl ⟨by rw [hua]; rfl, rfl⟩
  have HFIN : Hid (∀ (W W' : World) (bad' : Bool), PlS g h A n c l a' e' bad' W → Grow2 w W g h → (∀ k, w2.heap.size ≤ k → k < w3.heap.size → W.heap[k]? = w3.heap[k]?) → w3.heap.size ≤ W.heap.size → W.heap[w.heap.size]? = some (.cells #[.int .i64 0, .int .u64 0, .int .u64 0, .slice none 0 0] 27 (0, 0)) →
      RowSet W W' w.heap.size #[.int .i64 u.kind, .int .u64 (u.a : Int), .int .u64 (u.b : Int), u.sl] 27 → Took ((txtT l a).bind fun x => (parseT x.1).map fun t => (t, x.2)) e bad u.abs a' e' bad' →
      ∃ (x : V) (a' e' : Nat) (bad' : Bool), Ending.returned (.agg #[.int .i64 u.kind, .int .u64 (u.a : Int), .int .u64 (u.b : Int), u.sl]) = .returned x.val ∧ Lies W' w.heap.size W'.heap.size x ∧ Shp 27 W' w.heap.size x ∧ PlS g h A n c l a' e' bad' W' ∧ Grow2 w W' g h ∧ Took ((txtT l a).bind fun x => (parseT x.1).map fun t => (t, x.2)) e bad x.abs a' e' bad') := by
    intro W W' bad' k1 k2 k3 k4 k5 k6 k7
    refine ⟨u, a', e', bad', rfl, ?_, ?_, k1.aside k6 (by omega) (by omega), ⟨k6.os.trans k2.os, k6.tape.trans k2.tape, k6.output.trans k2.output, by rw [k6.size]; exact k2.size, fun k h1 h2 h3 => (k6.other k (by omega)).trans (k2.block k h1 h2 h3)⟩, k7⟩
    · exact (huL.keep fun q q1 q2 => World.cell?_of_block ((k6.other _ (by omega)).trans (k3 _ q1 q2))).more (by omega) (by rw [k6.size]; exact k4)
    · exact (huS.keep fun q q1 q2 => (k6.other _ (by omega)).trans (k3 _ q1 q2)).more (by omega)
  have HTK : Hid (∀ bad', ((parseT s = some u.abs ∧ bad' = bad) ∨ (parseT s = none ∧ bad' = true)) → Took ((txtT l a).bind fun x => (parseT x.1).map fun t => (t, x.2)) e bad u.abs a' e' bad') := fun bad' hc => by
    refine Took.bind hT ?_
    rcases hc with ⟨c1, rfl⟩ | ⟨c1, rfl⟩
    · refine ⟨fun hn => hn, fun hg => .inl ⟨?_, hg⟩⟩
      show (parseT s).map _ = _
      rw [c1]; rfl
    · refine ⟨fun _ hg => (by cases hg.2), fun _ => .inr ⟨?_, fun hg => (by cases hg.2)⟩⟩
      show (parseT s).map _ = _
      rw [c1]; rfl
  simp only [V.sl] at hq4 hn4 p4 hq3b hG4 hL4 hS4 hs4 HFIN ⊢
  rw [show u.val = .agg #[.int .i64 u.kind, .int .u64 (u.a : Int), .int .u64 (u.b : Int), .slice u.addr u.parts.length u.cap] from rfl]
  go_upto_region 2 with (fail)
  generalize w3.alloc (.cells #[.int .i64 u.kind, .int .u64 (u.a : Int), .int .u64 (u.b : Int), .slice u.addr u.parts.length u.cap] 27) = w4 at *
  obtain ⟨z, hz⟩ : ∃ z, z = (ansT (parseT s)).2 := ⟨_, rfl⟩
  rw [← hz] at HAN ⊢
  clear hz PP hL4 hS4 huL huS hua p3 p2 hq3 hq2 hG3 hG2 HB8
  rcases HAN.out with ⟨h1, rfl⟩ | ⟨h1, rfl⟩
  · have HTK := Lib_hid (HTK.out bad (.inl ⟨h1, rfl⟩))
    clear HAN h1
    have hrs := rowset4 (.int .i64 u.kind) (.int .u64 (u.a : Int)) (.int .u64 (u.b : Int)) (.slice u.addr u.parts.length u.cap) hq3b
    have HF := Lib_hid (HFIN.out w4 _ bad p4 hG4 (fun k k1 k2 => hn4.block k k2) (by omega) hq3b hrs HTK.out)
    have HR := Lib_hid hrs.row
    obtain ⟨d0, d1, d2, d3⟩ : w4.cell? ⟨w3.heap.size, 0, none⟩ = some (.int .i64 u.kind) ∧ w4.cell? ⟨w3.heap.size, 1, none⟩ = some (.int .u64 (u.a : Int)) ∧ w4.cell? ⟨w3.heap.size, 2, none⟩ = some (.int .u64 (u.b : Int)) ∧ w4.cell? ⟨w3.heap.size, 3, none⟩ = some (.slice u.addr u.parts.length u.cap) := ⟨cell_of_row _ _ 0 _ _ _ hq4, cell_of_row _ _ 1 _ _ _ hq4, cell_of_row _ _ 2 _ _ _ hq4, cell_of_row _ _ 3 _ _ _ hq4⟩
    obtain ⟨b0, b1, b2, b3⟩ : w4.cell? ⟨w.heap.size, 0, none⟩ = some (.int .i64 0) ∧ w4.cell? ⟨w.heap.size, 1, none⟩ = some (.int .u64 0) ∧ w4.cell? ⟨w.heap.size, 2, none⟩ = some (.int .u64 0) ∧ w4.cell? ⟨w.heap.size, 3, none⟩ = some (.slice none 0 0) := ⟨cell_of_row _ _ 0 _ _ _ hq3b, cell_of_row _ _ 1 _ _ _ hq3b, cell_of_row _ _ 2 _ _ _ hq3b, cell_of_row _ _ 3 _ _ _ hq3b⟩
    have z0 := frozen_of_row w4 w.heap.size 0 _ _ hq3b
    have z1 := frozen_of_row w4 w.heap.size 1 _ _ hq3b
    have z2 := frozen_of_row w4 w.heap.size 2 _ _ hq3b
    have z3 := frozen_of_row w4 w.heap.size 3 _ _ hq3b
    clear HFIN HTK hrs hT p4 hG4 hq4 hq3b hn4
    generalize hP : put4 w4 w.heap.size (.int .i64 u.kind) (.int .u64 (u.a : Int)) (.int .u64 (u.b : Int)) (.slice u.addr u.parts.length u.cap) = W9 at *
    have HP := Lib_hid hP
    clear hP
    generalize u.addr = pA at *
    generalize u.parts.length = pn at *
    generalize u.cap = pc at *
    generalize u.kind = pk at *
    generalize (u.a : Int) = pa at *
    generalize (u.b : Int) = pb at *
    go_wp2
    show bodyPost _ _ _ _ _ (put4 w4 w.heap.size (.int .i64 pk) (.int .u64 pa) (.int .u64 pb) (.slice pA pn pc))
    rw [HP.out]
    exact bodyPost_ret (results_cell_row (p := 2) (ty := 27) rfl _ _ w.heap.size 27 #[.int .i64 pk, .int .u64 pa, .int .u64 pb, .slice pA pn pc] (0, 0) _ rfl HR.out Tryz.underlying27 rfl hsz) rfl HF.out
  · have HTK := Lib_hid (HTK.out true (.inr ⟨h1, rfl⟩))
    clear HAN h1
    obtain ⟨-, e1, -, y1⟩ := p4.cells
    have p5 := p4.spoilt true
    have hq5 := (Below.heap_setCell w4 ⟨g, 1, none⟩ (.bool true) w.heap.size (by show w.heap.size ≠ g; omega)).trans hq3b
    have hr5 := (Below.heap_setCell w4 ⟨g, 1, none⟩ (.bool true) w3.heap.size (by show w3.heap.size ≠ g; omega)).trans hq4
    have hG5 := hG4.trans (Grow2.set w4 g h 1 (.bool true))
    have hk5 : ∀ k, w2.heap.size ≤ k → k < w3.heap.size → (w4.setCell ⟨g, 1, none⟩ (.bool true)).heap[k]? = w3.heap[k]? := fun k k1 k2 => (Below.heap_setCell w4 ⟨g, 1, none⟩ (.bool true) k (by show k ≠ g; omega)).trans (hn4.block k k2)
    have hz5 : w3.heap.size ≤ (w4.setCell ⟨g, 1, none⟩ (.bool true)).heap.size := by simp [World.setCell]; omega
    go_upto_region 4 with (fail)
    generalize w4.setCell ⟨g, 1, none⟩ (.bool true) = w5 at *
    have hrs := rowset4 (.int .i64 u.kind) (.int .u64 (u.a : Int)) (.int .u64 (u.b : Int)) (.slice u.addr u.parts.length u.cap) hq5
    have HF := Lib_hid (HFIN.out w5 _ true p5 hG5 hk5 hz5 hq5 hrs HTK.out)
    have HR := Lib_hid hrs.row
    obtain ⟨d0, d1, d2, d3⟩ : w5.cell? ⟨w3.heap.size, 0, none⟩ = some (.int .i64 u.kind) ∧ w5.cell? ⟨w3.heap.size, 1, none⟩ = some (.int .u64 (u.a : Int)) ∧ w5.cell? ⟨w3.heap.size, 2, none⟩ = some (.int .u64 (u.b : Int)) ∧ w5.cell? ⟨w3.heap.size, 3, none⟩ = some (.slice u.addr u.parts.length u.cap) := ⟨cell_of_row _ _ 0 _ _ _ hr5, cell_of_row _ _ 1 _ _ _ hr5, cell_of_row _ _ 2 _ _ _ hr5, cell_of_row _ _ 3 _ _ _ hr5⟩
    obtain ⟨b0, b1, b2, b3⟩ : w5.cell? ⟨w.heap.size, 0, none⟩ = some (.int .i64 0) ∧ w5.cell? ⟨w.heap.size, 1, none⟩ = some (.int .u64 0) ∧ w5.cell? ⟨w.heap.size, 2, none⟩ = some (.int .u64 0) ∧ w5.cell? ⟨w.heap.size, 3, none⟩ = some (.slice none 0 0) := ⟨cell_of_row _ _ 0 _ _ _ hq5, cell_of_row _ _ 1 _ _ _ hq5, cell_of_row _ _ 2 _ _ _ hq5, cell_of_row _ _ 3 _ _ _ hq5⟩
    have z0 := frozen_of_row w5 w.heap.size 0 _ _ hq5
    have z1 := frozen_of_row w5 w.heap.size 1 _ _ hq5
    have z2 := frozen_of_row w5 w.heap.size 2 _ _ hq5
    have z3 := frozen_of_row w5 w.heap.size 3 _ _ hq5
    clear HFIN HTK hrs hT p4 p5 hq5 hr5 hG5 hk5 hz5 hG4 hq4 hq3b hn4
    generalize hP : put4 w5 w.heap.size (.int .i64 u.kind) (.int .u64 (u.a : Int)) (.int .u64 (u.b : Int)) (.slice u.addr u.parts.length u.cap) = W9 at *
    have HP := Lib_hid hP
    clear hP
    generalize u.addr = pA at *
    generalize u.parts.length = pn at *
    generalize u.cap = pc at *
    generalize u.kind = pk at *
    generalize (u.a : Int) = pa at *
    generalize (u.b : Int) = pb at *
    go_wp2
    show bodyPost _ _ _ _ _ (put4 w5 w.heap.size (.int .i64 pk) (.int .u64 pa) (.int .u64 pb) (.slice pA pn pc))
    rw [HP.out]
    exact bodyPost_ret (results_cell_row (p := 2) (ty := 27) rfl _ _ w.heap.size 27 #[.int .i64 pk, .int .u64 pa, .int .u64 pb, .slice pA pn pc] (0, 0) _ rfl HR.out Tryz.underlying27 rfl hsz) rfl HF.out
end
end Go.Proofs.YtiiiklenhmhccaaGreatDoor
