/-
  Layer 4: the law's walk: what the program tells of a tree is what the document tells.
-/
import Derived.Test.YtiijdacnfhiagaaGreatDoorZkTqd
import Derived.Test.YtiijdacnfhiagaaGreatDoorZkTqh
import Derived.Test.YtiijdacnfhiagaaGreatDoorZkTqp
import Derived.Test.YtiijdacnfhiagaaGreatDoorTcn
import Derived.Test.YtiijdacnfhiagaaGreatDoorTdn
import Derived.Test.YtiijdacnfhiagaaGreatDoorZkTcl
import Derived.Test.YtiijdacnfhiagaaGreatDoorTex
import Derived.Test.YtiijdacnfhiagaaGreatDoorZkTqc
import Derived.Test.YtiijdacnfhiagaaGreatDoorZkTwo

namespace Go.Proofs.YtiijdacnfhiagaaGreatDoor
open Go Go.RowKit
set_option linter.unusedVariables false

set_option maxRecDepth 100000 in
set_option maxHeartbeats 6400000 in
theorem predtells_any (p q : V) (x y : Nat) (hx : x < 18446744073709551616) (hy : y < 18446744073709551616) (w : World) (hp : Lies w 0 w.heap.size p) (hq : Lies w 0 w.heap.size q) (hE : Env w.heap.size w) :
    Calls Tryz.prog 3 #[p.val, q.val, .int .u64 (x : Int), .int .u64 (y : Int)] w fun e w' => e = .returned (.bool true) ∧ Below w.heap.size w w' := by
  have WK : Hid (∀ W, Below w.heap.size w W → Calls Tryz.prog 9 #[] W fun e w' => e = .returned (.bool true) ∧ Below W.heap.size W w') := fun W h =>
    works4_any w.heap.size W (hE.under h (Nat.le_refl _)) h.size
  have HPL : Hid (∀ W, Below w.heap.size w W → Lies W 0 w.heap.size p) := fun W h => hp.under h
  have HQL : Hid (∀ W, Below w.heap.size w W → Lies W 0 w.heap.size q) := fun W h => hq.under h
  have HEn : Hid (∀ W, Below w.heap.size w W → Env w.heap.size W) := fun W h => hE.under h (Nat.le_refl _)
  obtain ⟨w1, hw1⟩ : ∃ w1, w1 = (w.alloc (.cells #[.int .i64 p.kind, .int .u64 (p.a : Int), .int .u64 (p.b : Int), .slice p.addr p.parts.length p.cap] 25)).alloc (.cells #[.int .i64 q.kind, .int .u64 (q.a : Int), .int .u64 (q.b : Int), .slice q.addr q.parts.length q.cap] 25) := ⟨_, rfl⟩
  have b0 := below_new w (.cells #[.int .i64 p.kind, .int .u64 (p.a : Int), .int .u64 (p.b : Int), .slice p.addr p.parts.length p.cap] 25)
  have r0 := heap_alloc_new w (.cells #[.int .i64 p.kind, .int .u64 (p.a : Int), .int .u64 (p.b : Int), .slice p.addr p.parts.length p.cap] 25)
  have s0 : (w.alloc (.cells #[.int .i64 p.kind, .int .u64 (p.a : Int), .int .u64 (p.b : Int), .slice p.addr p.parts.length p.cap] 25)).heap.size = w.heap.size + 1 := by simp
  have b1 := below_new (w.alloc (.cells #[.int .i64 p.kind, .int .u64 (p.a : Int), .int .u64 (p.b : Int), .slice p.addr p.parts.length p.cap] 25)) (.cells #[.int .i64 q.kind, .int .u64 (q.a : Int), .int .u64 (q.b : Int), .slice q.addr q.parts.length q.cap] 25)
  have r1 := heap_alloc_new (w.alloc (.cells #[.int .i64 p.kind, .int .u64 (p.a : Int), .int .u64 (p.b : Int), .slice p.addr p.parts.length p.cap] 25)) (.cells #[.int .i64 q.kind, .int .u64 (q.a : Int), .int .u64 (q.b : Int), .slice q.addr q.parts.length q.cap] 25)
  rw [s0] at r1
  rw [← hw1] at b1 r1
  have r01 := (b1.block w.heap.size (by omega)).trans r0
  have hbw1 := b0.trans (b1.mono (by omega))
  have s1 : w1.heap.size = w.heap.size + 2 := by rw [hw1]; simp
  have FP := few_any p w1 0 w.heap.size (HPL.out w1 hbw1) (by omega)
  have FQ : Hid (∀ W, Below w1.heap.size w1 W → Calls Tryz.prog 8 #[.agg #[.int .i64 q.kind, .int .u64 (q.a : Int), .int .u64 (q.b : Int), .slice q.addr q.parts.length q.cap]] W fun e w' => e = .returned (.bool (decide (q.abs.count ≤ 60))) ∧ Below W.heap.size W w') := fun W h =>
    few_any q W 0 w.heap.size (HQL.out W (hbw1.trans (h.mono hbw1.size))) (by have := h.size; omega)
  have FP : Calls Tryz.prog 8 #[.agg #[.int .i64 p.kind, .int .u64 (p.a : Int), .int .u64 (p.b : Int), .slice p.addr p.parts.length p.cap]] w1 fun e w' => e = .returned (.bool (decide (p.abs.count ≤ 60))) ∧ Below w1.heap.size w1 w' := FP
  have BX : Hid (∀ W, Below w1.heap.size w1 W → (W.cell? ⟨w.heap.size, 0, none⟩ = some (.int .i64 p.kind) ∧ W.cell? ⟨w.heap.size, 1, none⟩ = some (.int .u64 (p.a : Int)) ∧ W.cell? ⟨w.heap.size, 2, none⟩ = some (.int .u64 (p.b : Int)) ∧ W.cell? ⟨w.heap.size, 3, none⟩ = some (.slice p.addr p.parts.length p.cap)) ∧
      W.cell? ⟨w.heap.size + 1, 0, none⟩ = some (.int .i64 q.kind) ∧ W.cell? ⟨w.heap.size + 1, 1, none⟩ = some (.int .u64 (q.a : Int)) ∧ W.cell? ⟨w.heap.size + 1, 2, none⟩ = some (.int .u64 (q.b : Int)) ∧ W.cell? ⟨w.heap.size + 1, 3, none⟩ = some (.slice q.addr q.parts.length q.cap)) := fun W hW => by
    have hx := (hW.block w.heap.size (by omega)).trans r01
    have hy := (hW.block (w.heap.size + 1) (by omega)).trans r1
    exact ⟨⟨(cell_of_row W _ 0 _ _ _ hx).trans rfl, (cell_of_row W _ 1 _ _ _ hx).trans rfl, (cell_of_row W _ 2 _ _ _ hx).trans rfl, (cell_of_row W _ 3 _ _ _ hx).trans rfl⟩, (cell_of_row W _ 0 _ _ _ hy).trans rfl, (cell_of_row W _ 1 _ _ _ hy).trans rfl, (cell_of_row W _ 2 _ _ _ hy).trans rfl, (cell_of_row W _ 3 _ _ _ hy).trans rfl⟩
  have HB1 := Lib_hid hbw1
  clear hp hq hE b0 b1 r0 r1 r01 s0 hbw1
  show Calls Tryz.prog 3 #[.agg #[.int .i64 p.kind, .int .u64 (p.a : Int), .int .u64 (p.b : Int), .slice p.addr p.parts.length p.cap], .agg #[.int .i64 q.kind, .int .u64 (q.a : Int), .int .u64 (q.b : Int), .slice q.addr q.parts.length q.cap], .int .u64 (x : Int), .int .u64 (y : Int)] w _
  subst hw1
  go_enter Tryz.func3, Tryz.ntmps3
  go_upto_region 1 with (fail)
  generalize (w.alloc _).alloc (.cells #[.int .i64 q.kind, .int .u64 (q.a : Int), .int .u64 (q.b : Int), .slice q.addr q.parts.length q.cap] 25) = w1 at *
  obtain ⟨⟨c0, c1, c2, c3⟩, -⟩ := BX.out w1 (Below.refl _ _)
  go_wp2_with fail
  refine FP.mono ?_
  rintro e w2 ⟨rfl, hb2⟩
  clear FP c0 c1 c2 c3
  have hbw2 := HB1.out.trans (hb2.mono HB1.out.size)
  by_cases hcp : p.abs.count ≤ 60
  · rw [decide_eq_true hcp]
    have F2 := FQ.out w2 hb2
    obtain ⟨-, c0, c1, c2, c3⟩ := BX.out w2 hb2
    go_wp2_with fail
    refine F2.mono ?_
    rintro e w3 ⟨rfl, hb3⟩
    have hb13 := hb2.trans (hb3.mono hb2.size)
    have hbw3 := HB1.out.trans (hb13.mono HB1.out.size)
    clear F2 c0 c1 c2 c3
    by_cases hcq : q.abs.count ≤ 60
    · rw [decide_eq_true hcq]
      have HB3 := Lib_hid (And.intro hb13 hbw3)
      have DP : Hid (∀ W, Below w3.heap.size w3 W → Calls Tryz.prog 10 #[.agg #[.int .i64 p.kind, .int .u64 (p.a : Int), .int .u64 (p.b : Int), .slice p.addr p.parts.length p.cap]] W fun e w' => ∃ u : V, e = .returned (.agg #[.int .i64 u.kind, .int .u64 (u.a : Int), .int .u64 (u.b : Int), .slice u.addr u.parts.length u.cap]) ∧ u.abs = p.abs ∧ Lies w' W.heap.size w'.heap.size u ∧ Shp 30 w' W.heap.size u ∧ Below W.heap.size W w') := fun W hW =>
        dexpr_any p W 0 w.heap.size (HPL.out W (hbw3.trans (hW.mono hbw3.size))) (by have := hbw3.size; have := hW.size; omega) (by omega)
      have DQ : Hid (∀ W, Below w3.heap.size w3 W → Calls Tryz.prog 10 #[.agg #[.int .i64 q.kind, .int .u64 (q.a : Int), .int .u64 (q.b : Int), .slice q.addr q.parts.length q.cap]] W fun e w' => ∃ u : V, e = .returned (.agg #[.int .i64 u.kind, .int .u64 (u.a : Int), .int .u64 (u.b : Int), .slice u.addr u.parts.length u.cap]) ∧ u.abs = q.abs ∧ Lies w' W.heap.size w'.heap.size u ∧ Shp 30 w' W.heap.size u ∧ Below W.heap.size W w') := fun W hW =>
        dexpr_any q W 0 w.heap.size (HQL.out W (hbw3.trans (hW.mono hbw3.size))) (by have := hbw3.size; have := hW.size; omega) (by omega)
      have BX3 : Hid (∀ W, Below w3.heap.size w3 W → (W.cell? ⟨w.heap.size, 0, none⟩ = some (.int .i64 p.kind) ∧ W.cell? ⟨w.heap.size, 1, none⟩ = some (.int .u64 (p.a : Int)) ∧ W.cell? ⟨w.heap.size, 2, none⟩ = some (.int .u64 (p.b : Int)) ∧ W.cell? ⟨w.heap.size, 3, none⟩ = some (.slice p.addr p.parts.length p.cap)) ∧
          W.cell? ⟨w.heap.size + 1, 0, none⟩ = some (.int .i64 q.kind) ∧ W.cell? ⟨w.heap.size + 1, 1, none⟩ = some (.int .u64 (q.a : Int)) ∧ W.cell? ⟨w.heap.size + 1, 2, none⟩ = some (.int .u64 (q.b : Int)) ∧ W.cell? ⟨w.heap.size + 1, 3, none⟩ = some (.slice q.addr q.parts.length q.cap)) := fun W hW => BX.out W (hb13.trans (hW.mono hb13.size))
      clear hb2 hb3 hbw2 hb13 hbw3 FQ BX
      obtain ⟨⟨c0, c1, c2, c3⟩, d0, d1, d2, d3⟩ := BX3.out w3 (Below.refl _ _)
      go_wp2_with fail
      have HW3 := HB3.out
      have hk9 : w.heap.size + 1 < w3.heap.size := by have := HW3.1.size; omega
      have e8 : Tryz.prog.follows .mixedOrders = true := by kernel_rfl
      have hcq2 : p.abs.count ≤ 60 ∧ q.abs.count ≤ 60 := ⟨hcp, hcq⟩
      clear c0 c1 c2 c3 d0 d1 d2 d3
      generalize hPV : Value.agg #[.int .i64 p.kind, .int .u64 (p.a : Int), .int .u64 (p.b : Int), .slice p.addr p.parts.length p.cap] = pv at DP ⊢
      generalize hQV : Value.agg #[.int .i64 q.kind, .int .u64 (q.a : Int), .int .u64 (q.b : Int), .slice q.addr q.parts.length q.cap] = qv at DQ ⊢
      refine wp_region_gen2 (N := 135) (fun a0 L a W => ∃ g9 g10 l1 h1 l2 h2 u r, P3 w3 pv qv p.abs q.abs a0 L a W g9 g10 l1 h1 l2 h2 u r) e8 (by kernel_rfl) ?_ ?_ ?_
      · exact ⟨0, 0, 0, 0, 0, 0, p, q, rfl, rfl, fun _ _ _ _ _ _ _ => rfl, below_drew1 w3, by simp, by simp, by simp, by simp, by simp, by simp, by simp, by simp, by simp, by simp, by simp, by simp, by simp⟩
      · rintro i o L a wx hi hLi ⟨g9, g10, l1, h1, l2, h2, u, r, hI⟩ hD
        have hi8 : i < 8 := (Array.getElem?_eq_some_iff.1 hi).1
        have hcase : i = 0 ∨ i = 1 ∨ i = 2 ∨ i = 3 ∨ i = 4 ∨ i = 5 ∨ i = 6 ∨ i = 7 := by omega
        clear hi8
        rcases hcase with rfl | rfl | rfl | rfl | rfl | rfl | rfl | rfl
        · obtain rfl := Option.some.inj hi
          have e4 : a.tmps.getD 4 undef = .pointer (some ⟨w.heap.size, 0, none⟩) := (hI.other 4 (by decide) (by decide) (by decide) (by decide) (by decide) (by decide)).trans rfl
          obtain ⟨⟨c0, c1, c2, c3⟩, -⟩ := BX3.out wx hI.below
          refine ⟨rfl, mid_step pv wx (fun K hK => ?_) ⟨_, _, _, _, _, _, _, _, hI.op0 rfl⟩⟩
          go_simp
          exact hK
        · obtain rfl := Option.some.inj hi
          have e25 := hI.o0 (hD 0 (by kernel_rfl))
          have DX := DP.out wx hI.below
          refine ⟨rfl, mid_call (fun v w' => ∃ u : V, v = .agg #[.int .i64 u.kind, .int .u64 (u.a : Int), .int .u64 (u.b : Int), .slice u.addr u.parts.length u.cap] ∧ u.abs = p.abs ∧ Lies w' wx.heap.size w'.heap.size u ∧ Below wx.heap.size wx w') (fun K hK => ?_) (fun v w' h => ?_)⟩
          · go_simp
            refine DX.mono ?_
            rintro e w' ⟨u', rfl, k1, k2, k3, k4⟩
            exact hK _ _ ⟨u', rfl, k1, k2, k4⟩
          · obtain ⟨u', rfl, k1, k2, k4⟩ := h
            exact ⟨_, _, _, _, _, _, _, _, hI.op1 rfl hLi k4 k1 k2⟩
        · obtain rfl := Option.some.inj hi
          have e4 : a.tmps.getD 5 undef = .pointer (some ⟨w.heap.size + 1, 0, none⟩) := (hI.other 5 (by decide) (by decide) (by decide) (by decide) (by decide) (by decide)).trans rfl
          obtain ⟨-, c0, c1, c2, c3⟩ := BX3.out wx hI.below
          refine ⟨rfl, mid_step qv wx (fun K hK => ?_) ⟨_, _, _, _, _, _, _, _, hI.op2 rfl⟩⟩
          go_simp
          exact hK
        · obtain rfl := Option.some.inj hi
          have e27 := hI.o2 (hD 2 (by kernel_rfl))
          have DX := DQ.out wx hI.below
          refine ⟨rfl, mid_call (fun v w' => ∃ u : V, v = .agg #[.int .i64 u.kind, .int .u64 (u.a : Int), .int .u64 (u.b : Int), .slice u.addr u.parts.length u.cap] ∧ u.abs = q.abs ∧ Lies w' wx.heap.size w'.heap.size u ∧ Below wx.heap.size wx w') (fun K hK => ?_) (fun v w' h => ?_)⟩
          · go_simp
            refine DX.mono ?_
            rintro e w' ⟨u', rfl, k1, k2, k3, k4⟩
            exact hK _ _ ⟨u', rfl, k1, k2, k4⟩
          · obtain ⟨u', rfl, k1, k2, k4⟩ := h
            exact ⟨_, _, _, _, _, _, _, _, hI.op3 rfl hLi k4 k1 k2⟩
        · obtain rfl := Option.some.inj hi
          refine ⟨rfl, mid_step (.pointer (some ⟨wx.heap.size, 0, none⟩)) (wx.alloc (.cells #[.int .i64 0, .int .u64 0, .int .u64 0, .slice none 0 0] 30)) (fun K hK => ?_) ⟨_, _, _, _, _, _, _, _, hI.op4 rfl hLi _ _ _ _⟩⟩
          go_simp
          exact hK
        · obtain rfl := Option.some.inj hi
          refine ⟨rfl, mid_step (.pointer (some ⟨wx.heap.size, 0, none⟩)) (wx.alloc (.cells #[.int .i64 0, .int .u64 0, .int .u64 0, .slice none 0 0] 30)) (fun K hK => ?_) ⟨_, _, _, _, _, _, _, _, hI.op5 rfl hLi _ _ _ _⟩⟩
          go_simp
          exact hK
        · obtain rfl := Option.some.inj hi
          have k1 := hD 1 (by kernel_rfl)
          have k4 := hD 4 (by kernel_rfl)
          have k5 := hD 5 (by kernel_rfl)
          have e26 := (hI.o1 k1).1
          obtain ⟨e9, -, x0, x1, x2, x3, hrow⟩ := hI.o4 k4
          have c0 := (cell_of_row wx _ 0 _ _ _ hrow).trans rfl
          have c1 := (cell_of_row wx _ 1 _ _ _ hrow).trans rfl
          have c2 := (cell_of_row wx _ 2 _ _ _ hrow).trans rfl
          have c3 := (cell_of_row wx _ 3 _ _ _ hrow).trans rfl
          have y0 := frozen_of_row wx g9 0 _ _ hrow
          have y1 := frozen_of_row wx g9 1 _ _ hrow
          have y2 := frozen_of_row wx g9 2 _ _ hrow
          have y3 := frozen_of_row wx g9 3 _ _ hrow
          refine ⟨rfl, mid_step undef _ (fun K hK => ?_) ⟨_, _, _, _, _, _, _, _, hI.op6 hLi k1 k4 k5⟩⟩
          go_simp
          exact hK
        · obtain rfl := Option.some.inj hi
          have k3 := hD 3 (by kernel_rfl)
          have k4 := hD 4 (by kernel_rfl)
          have k5 := hD 5 (by kernel_rfl)
          have e28 := (hI.o3 k3).1
          obtain ⟨e10, -, x0, x1, x2, x3, hrow⟩ := hI.o5 k5
          have c0 := (cell_of_row wx _ 0 _ _ _ hrow).trans rfl
          have c1 := (cell_of_row wx _ 1 _ _ _ hrow).trans rfl
          have c2 := (cell_of_row wx _ 2 _ _ _ hrow).trans rfl
          have c3 := (cell_of_row wx _ 3 _ _ _ hrow).trans rfl
          have y0 := frozen_of_row wx g10 0 _ _ hrow
          have y1 := frozen_of_row wx g10 1 _ _ hrow
          have y2 := frozen_of_row wx g10 2 _ _ hrow
          have y3 := frozen_of_row wx g10 3 _ _ hrow
          refine ⟨rfl, mid_step undef _ (fun K hK => ?_) ⟨_, _, _, _, _, _, _, _, hI.op7 hLi k3 k4 k5⟩⟩
          go_simp
          exact hK
      · rintro L a W4 ⟨g9, g10, l1, h1, l2, h2, u, r, hI⟩ hall
        have hact := hI.act rfl hall
        obtain ⟨-, hua, huL, hu1, hu2⟩ := hI.o1 (hall 1 (by decide))
        obtain ⟨-, hra, hrL, hr1, hr2⟩ := hI.o3 (hall 3 (by decide))
        obtain ⟨-, -, hr9⟩ := hI.o6 (hall 6 (by decide))
        obtain ⟨-, -, hr10⟩ := hI.o7 (hall 7 (by decide))
        have hg9 := (hI.o4 (hall 4 (by decide))).2.1
        have hg10 := (hI.o5 (hall 5 (by decide))).2.1
        have hb4 := hI.below
        clear hI hall DP DQ
        rw [hact]
        clear hact
        subst hPV hQV
        have hbw4 := HW3.2.trans (hb4.mono HW3.2.size)
        have hs4 := hbw4.size
        have BX4 : Hid (∀ W, Below W4.heap.size W4 W → (W.cell? ⟨w.heap.size, 0, none⟩ = some (.int .i64 p.kind) ∧ W.cell? ⟨w.heap.size, 1, none⟩ = some (.int .u64 (p.a : Int)) ∧ W.cell? ⟨w.heap.size, 2, none⟩ = some (.int .u64 (p.b : Int)) ∧ W.cell? ⟨w.heap.size, 3, none⟩ = some (.slice p.addr p.parts.length p.cap)) ∧
            (W.cell? ⟨w.heap.size + 1, 0, none⟩ = some (.int .i64 q.kind) ∧ W.cell? ⟨w.heap.size + 1, 1, none⟩ = some (.int .u64 (q.a : Int)) ∧ W.cell? ⟨w.heap.size + 1, 2, none⟩ = some (.int .u64 (q.b : Int)) ∧ W.cell? ⟨w.heap.size + 1, 3, none⟩ = some (.slice q.addr q.parts.length q.cap)) ∧
            (W.cell? ⟨g9, 0, none⟩ = some (.int .i64 u.kind) ∧ W.cell? ⟨g9, 1, none⟩ = some (.int .u64 (u.a : Int)) ∧ W.cell? ⟨g9, 2, none⟩ = some (.int .u64 (u.b : Int)) ∧ W.cell? ⟨g9, 3, none⟩ = some (.slice u.addr u.parts.length u.cap)) ∧
            (W.cell? ⟨g10, 0, none⟩ = some (.int .i64 r.kind) ∧ W.cell? ⟨g10, 1, none⟩ = some (.int .u64 (r.a : Int)) ∧ W.cell? ⟨g10, 2, none⟩ = some (.int .u64 (r.b : Int)) ∧ W.cell? ⟨g10, 3, none⟩ = some (.slice r.addr r.parts.length r.cap))) := fun W hW => by
          obtain ⟨hx, hy⟩ := BX3.out W (hb4.trans (hW.mono hb4.size))
          have h9 := (hW.block g9 (lt_of_block hr9)).trans hr9
          have h10 := (hW.block g10 (lt_of_block hr10)).trans hr10
          exact ⟨hx, hy, ⟨(cell_of_row W _ 0 _ _ _ h9).trans rfl, (cell_of_row W _ 1 _ _ _ h9).trans rfl, (cell_of_row W _ 2 _ _ _ h9).trans rfl, (cell_of_row W _ 3 _ _ _ h9).trans rfl⟩, (cell_of_row W _ 0 _ _ _ h10).trans rfl, (cell_of_row W _ 1 _ _ _ h10).trans rfl, (cell_of_row W _ 2 _ _ _ h10).trans rfl, (cell_of_row W _ 3 _ _ _ h10).trans rfl⟩
        have HG := Lib_hid (And.intro (lt_of_block hr9) (lt_of_block hr10))
        have HUL : Hid (∀ W, Below W4.heap.size W4 W → Lies W l1 h1 u) := fun W hW => huL.under (hW.mono hu2)
        have HRL : Hid (∀ W, Below W4.heap.size W4 W → Lies W l2 h2 r) := fun W hW => hrL.under (hW.mono hr2)
        have HBW4 := Lib_hid hbw4
        have HUA := Lib_hid (And.intro hua hra)
        clear hr9 hr10 huL hrL hua hra BX3 HB3 HW3 hk9 FP hbw4 hb4
        go_wp2
        go_loopw [11] (fun z W => ∃ t : Nat, z = .int .i64 t ∧ t ≤ 2 ∧ Hid (Below W4.heap.size W4 W)) (fun z _ => 2 - (intOf z).toNat)
        case atStart => exact ⟨0, rfl, by omega, Lib_hid (Below.refl _ _)⟩
        case round =>
          obtain ⟨t, rfl, ht, hbW⟩ := hrel
          rename World => W
          have hbwW : Hid (Below w.heap.size w W) := HBW4.out.trans (hbW.out.mono hs4)
          have hsW := hbW.out.size
          by_cases hlt : t < 2
          · have ht2 : (t : Int) < 2 := by omega
            have hcu : u.abs.count ≤ 1000 := by rw [HUA.out.1]; omega
            have hcr : r.abs.count ≤ 1000 := by rw [HUA.out.2]; omega
            have PU : Calls Tryz.prog 11 #[(.agg #[.int .i64 p.kind, .int .u64 (p.a : Int), .int .u64 (p.b : Int), .slice p.addr p.parts.length p.cap])] W (Made 5 p.abs.put W) := pput_any p W 0 w.heap.size (HPL.out W hbwW.out) (by omega)
            obtain ⟨⟨c0, c1, c2, c3⟩, -, -, -⟩ := BX4.out W hbW.out
            go_wp2_with fail
            refine PU.mono ?_
            rintro e W5 hMd
            obtain ⟨A5, n5, c5, rfl, ho5, hb5⟩ := made_iff.1 hMd
            clear c0 c1 c2 c3 PU hMd
            have hb45 := hbW.out.trans (hb5.mono hsW)
            have hs5 := hb5.size
            have b6 := below_new W5 (.cells #[.int .i64 p.kind, .int .u64 (p.a : Int), .int .u64 (p.b : Int), .slice p.addr p.parts.length p.cap, .int .i64 q.kind, .int .u64 (q.a : Int), .int .u64 (q.b : Int), .slice q.addr q.parts.length q.cap] 25)
            have r6 := heap_alloc_new W5 (.cells #[.int .i64 p.kind, .int .u64 (p.a : Int), .int .u64 (p.b : Int), .slice p.addr p.parts.length p.cap, .int .i64 q.kind, .int .u64 (q.a : Int), .int .u64 (q.b : Int), .slice q.addr q.parts.length q.cap] 25)
            have s6 : W5.heap.size + 1 ≤ (W5.alloc (.cells #[.int .i64 p.kind, .int .u64 (p.a : Int), .int .u64 (p.b : Int), .slice p.addr p.parts.length p.cap, .int .i64 q.kind, .int .u64 (q.a : Int), .int .u64 (q.b : Int), .slice q.addr q.parts.length q.cap] 25)).heap.size := by simp
            obtain ⟨⟨c0, c1, c2, c3⟩, ⟨d0, d1, d2, d3⟩, -, -⟩ := BX4.out W5 hb45
            have hb46 := hb45.trans (b6.mono (by omega))
            have hbw6 := HBW4.out.trans (hb46.mono hs4)
            have BO0 := both_any (some ⟨W5.heap.size, 0, none⟩) 2 [p, q] _ 0 _ (pair_lies (k := 0) (by omega) r6 (HPL.out _ hbw6) (HQL.out _ hbw6) (by omega) (by omega) (by omega)) (Nat.le_refl _) (by simp [V.absL, T.countL]; omega)
            obtain ⟨W6, hW6⟩ : ∃ W6, W6 = W5.alloc (.cells #[.int .i64 p.kind, .int .u64 (p.a : Int), .int .u64 (p.b : Int), .slice p.addr p.parts.length p.cap, .int .i64 q.kind, .int .u64 (q.a : Int), .int .u64 (q.b : Int), .slice q.addr q.parts.length q.cap] 25) := ⟨_, rfl⟩
            rw [← hW6] at b6 s6 hb46 hbw6 BO0
            have BO : Calls Tryz.prog 12 #[.slice (some ⟨W5.heap.size, 0, none⟩) 2 2] W6 fun e w' => ∃ v : V, e = .returned (.agg #[.int .i64 v.kind, .int .u64 (v.a : Int), .int .u64 (v.b : Int), .slice v.addr v.parts.length v.cap]) ∧ v.abs = (.node 6 0 0 (V.absL [p, q])) ∧ Lies w' W6.heap.size w'.heap.size v ∧ Shp 25 w' W6.heap.size v ∧ Below W6.heap.size W6 w' := BO0
            clear r6 BO0
            subst hW6
            go_wp2_with fail
            refine BO.mono ?_
            clear BO c0 c1 c2 c3 d0 d1 d2 d3
            generalize W5.alloc (.cells #[.int .i64 p.kind, .int .u64 (p.a : Int), .int .u64 (p.b : Int), .slice p.addr p.parts.length p.cap, .int .i64 q.kind, .int .u64 (q.a : Int), .int .u64 (q.b : Int), .slice q.addr q.parts.length q.cap] 25) = W6 at *
            rintro e W7 ⟨v, rfl, hv, hvL, hvS, hb7⟩
            have s7 := hb7.size
            have b8 := below_new W7 (.cells #[.int .i64 v.kind, .int .u64 (v.a : Int), .int .u64 (v.b : Int), .slice v.addr v.parts.length v.cap] 25)
            have r8 := heap_alloc_new W7 (.cells #[.int .i64 v.kind, .int .u64 (v.a : Int), .int .u64 (v.b : Int), .slice v.addr v.parts.length v.cap] 25)
            have s8 : W7.heap.size + 1 ≤ (W7.alloc (.cells #[.int .i64 v.kind, .int .u64 (v.a : Int), .int .u64 (v.b : Int), .slice v.addr v.parts.length v.cap] 25)).heap.size := by simp
            go_upto_region 9 with (fail)
            generalize W7.alloc (.cells #[.int .i64 v.kind, .int .u64 (v.a : Int), .int .u64 (v.b : Int), .slice v.addr v.parts.length v.cap] 25) = W8 at *
            have hb68 := hb7.trans (b8.mono s7)
            have hb48 := hb46.trans (hb68.mono (by omega))
            have hbw8 := HBW4.out.trans (hb48.mono hs4)
            have TU : Calls Tryz.prog 13 #[(.agg #[.int .i64 p.kind, .int .u64 (p.a : Int), .int .u64 (p.b : Int), .slice p.addr p.parts.length p.cap])] W8 fun e w' => ∃ v : V, e = .returned (.agg #[.int .i64 v.kind, .int .u64 (v.a : Int), .int .u64 (v.b : Int), .slice v.addr v.parts.length v.cap]) ∧ v.abs = p.abs.turn ∧ Lies w' W8.heap.size w'.heap.size v ∧ Shp 25 w' W8.heap.size v ∧ Below W8.heap.size W8 w' := turnV_any p W8 0 w.heap.size (HPL.out W8 hbw8) (by omega) (by omega) (by omega)
            obtain ⟨⟨c0, c1, c2, c3⟩, -, -, -⟩ := BX4.out W8 hb48
            go_wp2_with fail
            refine TU.mono ?_
            clear TU c0 c1 c2 c3
            rintro e W9 ⟨t9, rfl, ht9, htL, htS, hb9⟩
            have s9 := hb9.size
            have b10 := below_new W9 (.cells #[.int .i64 t9.kind, .int .u64 (t9.a : Int), .int .u64 (t9.b : Int), .slice t9.addr t9.parts.length t9.cap] 25)
            have r10 := heap_alloc_new W9 (.cells #[.int .i64 t9.kind, .int .u64 (t9.a : Int), .int .u64 (t9.b : Int), .slice t9.addr t9.parts.length t9.cap] 25)
            have s10 : W9.heap.size + 1 ≤ (W9.alloc (.cells #[.int .i64 t9.kind, .int .u64 (t9.a : Int), .int .u64 (t9.b : Int), .slice t9.addr t9.parts.length t9.cap] 25)).heap.size := by simp
            go_upto_region 10 with (fail)
            generalize W9.alloc (.cells #[.int .i64 t9.kind, .int .u64 (t9.a : Int), .int .u64 (t9.b : Int), .slice t9.addr t9.parts.length t9.cap] 25) = W10 at *
            have hb810 := hb9.trans (b10.mono s9)
            have hb410 := hb48.trans (hb810.mono (by omega))
            obtain ⟨-, -, ⟨c0, c1, c2, c3⟩, ⟨d0, d1, d2, d3⟩⟩ := BX4.out W10 hb410
            have b11 := below_new W10 (.cells #[.int .i64 u.kind, .int .u64 (u.a : Int), .int .u64 (u.b : Int), .slice u.addr u.parts.length u.cap, .int .i64 r.kind, .int .u64 (r.a : Int), .int .u64 (r.b : Int), .slice r.addr r.parts.length r.cap] 30)
            have r11 := heap_alloc_new W10 (.cells #[.int .i64 u.kind, .int .u64 (u.a : Int), .int .u64 (u.b : Int), .slice u.addr u.parts.length u.cap, .int .i64 r.kind, .int .u64 (r.a : Int), .int .u64 (r.b : Int), .slice r.addr r.parts.length r.cap] 30)
            have s11 : (W10.alloc (.cells #[.int .i64 u.kind, .int .u64 (u.a : Int), .int .u64 (u.b : Int), .slice u.addr u.parts.length u.cap, .int .i64 r.kind, .int .u64 (r.a : Int), .int .u64 (r.b : Int), .slice r.addr r.parts.length r.cap] 30)).heap.size = W10.heap.size + 1 := by simp
            have b12 := below_new (W10.alloc (.cells #[.int .i64 u.kind, .int .u64 (u.a : Int), .int .u64 (u.b : Int), .slice u.addr u.parts.length u.cap, .int .i64 r.kind, .int .u64 (r.a : Int), .int .u64 (r.b : Int), .slice r.addr r.parts.length r.cap] 30)) (.cells #[.int .i64 6, .int .u64 0, .int .u64 0, .slice (some ⟨W10.heap.size, 0, none⟩) 2 2] 30)
            have r12 := heap_alloc_new (W10.alloc (.cells #[.int .i64 u.kind, .int .u64 (u.a : Int), .int .u64 (u.b : Int), .slice u.addr u.parts.length u.cap, .int .i64 r.kind, .int .u64 (r.a : Int), .int .u64 (r.b : Int), .slice r.addr r.parts.length r.cap] 30)) (.cells #[.int .i64 6, .int .u64 0, .int .u64 0, .slice (some ⟨W10.heap.size, 0, none⟩) 2 2] 30)
            have s12 : W10.heap.size + 2 ≤ ((W10.alloc (.cells #[.int .i64 u.kind, .int .u64 (u.a : Int), .int .u64 (u.b : Int), .slice u.addr u.parts.length u.cap, .int .i64 r.kind, .int .u64 (r.a : Int), .int .u64 (r.b : Int), .slice r.addr r.parts.length r.cap] 30)).alloc (.cells #[.int .i64 6, .int .u64 0, .int .u64 0, .slice (some ⟨W10.heap.size, 0, none⟩) 2 2] 30)).heap.size := by simp
            rw [s11] at b12 r12
            have r112 := (b12.block W10.heap.size (by omega)).trans r11
            have hb1012 := b11.trans (b12.mono (by omega))
            clear r11 b12 b11 s11
            go_upto_region 11 with (fail)
            generalize (W10.alloc _).alloc (.cells #[.int .i64 6, .int .u64 0, .int .u64 0, .slice (some ⟨W10.heap.size, 0, none⟩) 2 2] 30) = W12 at *
            clear c0 c1 c2 c3 d0 d1 d2 d3
            have hb812 := hb810.trans (hb1012.mono (by omega))
            have hb412 := hb48.trans (hb812.mono (by omega))
            have hs12 : W4.heap.size ≤ W12.heap.size := hb412.size
            have hcv : v.abs.count ≤ 1000 := by rw [hv]; simp [V.absL, T.count, T.countL]; omega
            have hct : t9.abs.count ≤ 1000 := by rw [ht9]; have := turn_count p.abs; omega
            have LV12 : Lies W12 W6.heap.size W7.heap.size v := (hvL.under b8).under (hb812.mono (by omega))
            have LT12 : Lies W12 W8.heap.size W9.heap.size t9 := (htL.under b10).under (hb1012.mono (by omega))
            have SV12 : Shp 25 W12 W6.heap.size v := (hvS.under (b8.mono (Nat.le_refl _))).under (hb812.mono (Nat.le_refl _))
            have ST12 : Shp 25 W12 W8.heap.size t9 := (htS.under (b10.mono (Nat.le_refl _))).under (hb1012.mono (Nat.le_refl _))
            have rv12 := (hb812.block W7.heap.size (by omega)).trans r8
            have rt12 := (hb1012.block W9.heap.size (by omega)).trans r10
            have LW12 : Lies W12 0 W12.heap.size (.node 6 0 0 (some ⟨W10.heap.size, 0, none⟩) 2 [u, r]) := pair_lies (k := 6) (by omega) r112 (HUL.out W12 hb412) (HRL.out W12 hb412) (by omega) (by omega) (by omega)
            have hwv : (V.node 6 0 0 (some ⟨W10.heap.size, 0, none⟩) 2 [u, r]).abs = v.abs := by rw [hv, V.abs, V.absL, V.absL, V.absL, V.absL, V.absL, V.absL, HUA.out.1, HUA.out.2]
            have hb512 := (b6.trans (hb68.mono (by omega))).trans (hb812.mono (by omega))
            have own12 := own_below ho5 hb512 (own_lt ho5)
            have HOW := Lib_hid own12
            have S12 : Hid (∀ W, Below W12.heap.size W12 W → (W.cell? ⟨g9, 0, none⟩ = some (.int .i64 u.kind) ∧ W.cell? ⟨g9, 1, none⟩ = some (.int .u64 (u.a : Int)) ∧ W.cell? ⟨g9, 2, none⟩ = some (.int .u64 (u.b : Int)) ∧ W.cell? ⟨g9, 3, none⟩ = some (.slice u.addr u.parts.length u.cap)) ∧ (W.cell? ⟨W7.heap.size, 0, none⟩ = some (.int .i64 v.kind) ∧ W.cell? ⟨W7.heap.size, 1, none⟩ = some (.int .u64 (v.a : Int)) ∧ W.cell? ⟨W7.heap.size, 2, none⟩ = some (.int .u64 (v.b : Int)) ∧ W.cell? ⟨W7.heap.size, 3, none⟩ = some (.slice v.addr v.parts.length v.cap)) ∧ (W.cell? ⟨W9.heap.size, 0, none⟩ = some (.int .i64 t9.kind) ∧ W.cell? ⟨W9.heap.size, 1, none⟩ = some (.int .u64 (t9.a : Int)) ∧ W.cell? ⟨W9.heap.size, 2, none⟩ = some (.int .u64 (t9.b : Int)) ∧ W.cell? ⟨W9.heap.size, 3, none⟩ = some (.slice t9.addr t9.parts.length t9.cap)) ∧ (W.cell? ⟨W10.heap.size + 1, 0, none⟩ = some (.int .i64 6) ∧ W.cell? ⟨W10.heap.size + 1, 1, none⟩ = some (.int .u64 0) ∧ W.cell? ⟨W10.heap.size + 1, 2, none⟩ = some (.int .u64 0) ∧ W.cell? ⟨W10.heap.size + 1, 3, none⟩ = some (.slice (some ⟨W10.heap.size, 0, none⟩) 2 2))) := fun W hW => by
              obtain ⟨-, -, k9, -⟩ := BX4.out W (hb412.trans (hW.mono hs12))
              have k7 := (hW.block W7.heap.size (by omega)).trans rv12
              have kt := (hW.block W9.heap.size (by omega)).trans rt12
              have kw := (hW.block (W10.heap.size + 1) (by omega)).trans r12
              exact ⟨k9, ⟨(cell_of_row W _ 0 _ _ _ k7).trans rfl, (cell_of_row W _ 1 _ _ _ k7).trans rfl, (cell_of_row W _ 2 _ _ _ k7).trans rfl, (cell_of_row W _ 3 _ _ _ k7).trans rfl⟩, ⟨(cell_of_row W _ 0 _ _ _ kt).trans rfl, (cell_of_row W _ 1 _ _ _ kt).trans rfl, (cell_of_row W _ 2 _ _ _ kt).trans rfl, (cell_of_row W _ 3 _ _ _ kt).trans rfl⟩, ⟨(cell_of_row W _ 0 _ _ _ kw).trans rfl, (cell_of_row W _ 1 _ _ _ kw).trans rfl, (cell_of_row W _ 2 _ _ _ kw).trans rfl, (cell_of_row W _ 3 _ _ _ kw).trans rfl⟩⟩
            have C1 : Hid (∀ W', Below W12.heap.size W12 W' → Calls Tryz.prog 15 #[(.agg #[.int .i64 u.kind, .int .u64 (u.a : Int), .int .u64 (u.b : Int), .slice u.addr u.parts.length u.cap])] W' fun e w' => ∃ A n c, e = .returned (.slice A n c) ∧ w'.ownsRow W'.heap.size 5 1 (.slice A n c) n (bs p.abs.put) ∧ Below W'.heap.size W' w') := fun W' h => by
              have hs := h.size
              have := rput4_any u W' l1 h1 (HUL.out W' (hb412.trans (h.mono hs12))) (by omega) hcu
              rw [HUA.out.1] at this
              exact this.mono fun e w' hM => made_iff.1 hM
            have C2 : Hid (∀ (W' : World) (A : Option Addr) (n c B' : Nat), Below W12.heap.size W12 W' → W'.ownsRow B' 5 1 (.slice A n c) n (bs p.abs.put) → Calls Tryz.prog 14 #[.slice A5 n5 c5, .slice A n c] W' fun e w' => e = .returned (.bool true) ∧ ∃ q, w' = W'.drewN q) := fun W' A n c B' h ho =>
              same_yes (c := c5) (c' := c) p.abs.put W' (Rd.own (own_below HOW.out h (own_lt HOW.out))) (Rd.own ho) (by have := own_cap HOW.out; omega)
            have C3 : Hid (∀ W', Below W12.heap.size W12 W' → Calls Tryz.prog 10 #[(.agg #[.int .i64 v.kind, .int .u64 (v.a : Int), .int .u64 (v.b : Int), .slice v.addr v.parts.length v.cap])] W' fun e w' => ∃ z : V, e = .returned (.agg #[.int .i64 z.kind, .int .u64 (z.a : Int), .int .u64 (z.b : Int), .slice z.addr z.parts.length z.cap]) ∧ z.abs = v.abs ∧ Lies w' W'.heap.size w'.heap.size z ∧ Below W'.heap.size W' w') := fun W' h => by
              have hs := h.size
              exact (dexpr_any v W' _ _ (LV12.under (h.mono (by omega))) (by omega) hcv).mono fun e w' ⟨z, e1, e2, e3, _, e4⟩ => ⟨z, e1, e2, e3, e4⟩
            have C4 : Hid (∀ (W' W'' : World) (z : V), Below W12.heap.size W12 W'' → z.abs = v.abs → Lies W'' W'.heap.size W''.heap.size z → Calls Tryz.prog 16 #[(.agg #[.int .i64 z.kind, .int .u64 (z.a : Int), .int .u64 (z.b : Int), .slice z.addr z.parts.length z.cap]), (.agg #[.int .i64 6, .int .u64 0, .int .u64 0, .slice (some ⟨W10.heap.size, 0, none⟩) 2 2])] W'' fun e w' => e = .returned (.bool true) ∧ Below W''.heap.size W'' w') := fun W' W'' z h e1 e2 => by
              have hs := h.size
              have := rsame_any z (.node 6 0 0 (some ⟨W10.heap.size, 0, none⟩) 2 [u, r]) W'' _ _ 0 W12.heap.size e2 (Nat.le_refl _) (LW12.under h) (by omega)
              rw [e1, hwv, (sameB_iff _ _).2 rfl] at this
              exact this
            have C5 : Hid (∀ W', Below W12.heap.size W12 W' → Calls Tryz.prog 10 #[(.agg #[.int .i64 t9.kind, .int .u64 (t9.a : Int), .int .u64 (t9.b : Int), .slice t9.addr t9.parts.length t9.cap])] W' fun e w' => ∃ z : V, e = .returned (.agg #[.int .i64 z.kind, .int .u64 (z.a : Int), .int .u64 (z.b : Int), .slice z.addr z.parts.length z.cap]) ∧ z.abs = t9.abs ∧ Lies w' W'.heap.size w'.heap.size z ∧ Below W'.heap.size W' w') := fun W' h => by
              have hs := h.size
              exact (dexpr_any t9 W' _ _ (LT12.under (h.mono (by omega))) (by omega) hct).mono fun e w' ⟨z, e1, e2, e3, _, e4⟩ => ⟨z, e1, e2, e3, e4⟩
            have C6 : Hid (∀ W', Below W12.heap.size W12 W' → Calls Tryz.prog 17 #[(.agg #[.int .i64 u.kind, .int .u64 (u.a : Int), .int .u64 (u.b : Int), .slice u.addr u.parts.length u.cap])] W' fun e w' => ∃ z : V, e = .returned (.agg #[.int .i64 z.kind, .int .u64 (z.a : Int), .int .u64 (z.b : Int), .slice z.addr z.parts.length z.cap]) ∧ z.abs = t9.abs ∧ Lies w' 0 w'.heap.size z ∧ Below W'.heap.size W' w') := fun W' h => by
              have hs := h.size
              have hlt := HG.out
              refine (rturnV_any u W' 0 h1 ((HUL.out W' (hb412.trans (h.mono hs12))).more (Nat.zero_le _) (Nat.le_refl _)) (by omega) (Nat.zero_le _)).mono fun e w' ⟨z, e1, e2, e3, e4⟩ => ⟨z, e1, ?_, e3, e4⟩
              rw [e2, HUA.out.1, ht9]
            have C7 : Hid (∀ (W' W'' : World) (z z2 : V), Below W12.heap.size W12 W'' → z.abs = t9.abs → Lies W'' W'.heap.size W''.heap.size z → z2.abs = t9.abs → Lies W'' 0 W''.heap.size z2 → Calls Tryz.prog 16 #[(.agg #[.int .i64 z.kind, .int .u64 (z.a : Int), .int .u64 (z.b : Int), .slice z.addr z.parts.length z.cap]), (.agg #[.int .i64 z2.kind, .int .u64 (z2.a : Int), .int .u64 (z2.b : Int), .slice z2.addr z2.parts.length z2.cap])] W'' fun e w' => e = .returned (.bool true) ∧ Below W''.heap.size W'' w') := fun W' W'' z z2 h e1 e2 e3 e4 => by
              have := rsame_any z z2 W'' _ _ _ _ e2 (Nat.le_refl _) e4 (Nat.le_refl _)
              rw [e1, e3, (sameB_iff _ _).2 rfl] at this
              exact this
            have SPB : Hid (∀ W', Below W12.heap.size W12 W' → Calls Tryz.prog 18 #[.slice A5 n5 c5] W' fun e w' => e = .returned (.tuple #[]) ∧ (∀ k, k < W12.heap.size → W5.heap.size ≤ k → w'.heap[k]? = W12.heap[k]?) ∧ W12.heap.size ≤ w'.heap.size ∧ Below W.heap.size W' w') := fun W' h => by
              have hro := own_below HOW.out h (own_lt HOW.out)
              refine (spoil_any W.heap.size n5 c5 A5 _ W' hro (by have := own_cap hro; omega)).mono fun e w' ⟨e1, e2⟩ => ⟨e1, fun k h1 h2 => ?_, ?_, ?_⟩
              · exact (e2.block k (by have := h.size; omega) (fun e => by have := own_lt ho5 k e.symm; omega)).trans (h.block k h1)
              · have := h.size; have := e2.size; omega
              · exact ⟨e2.os, e2.tape, e2.output, e2.size, fun i hi => e2.block i (by have := h.size; omega) (fun e => by have := own_ge ho5 i e.symm; omega)⟩
            have SPV : Hid (∀ W', (∀ k, k < W12.heap.size → W5.heap.size ≤ k → W'.heap[k]? = W12.heap[k]?) → W12.heap.size ≤ W'.heap.size → (W'.cell? ⟨W7.heap.size, 0, none⟩ = some (.int .i64 v.kind) ∧ W'.cell? ⟨W7.heap.size, 1, none⟩ = some (.int .u64 (v.a : Int)) ∧ W'.cell? ⟨W7.heap.size, 2, none⟩ = some (.int .u64 (v.b : Int)) ∧ W'.cell? ⟨W7.heap.size, 3, none⟩ = some (.slice v.addr v.parts.length v.cap)) ∧ Calls Tryz.prog 19 #[(.agg #[.int .i64 v.kind, .int .u64 (v.a : Int), .int .u64 (v.b : Int), .slice v.addr v.parts.length v.cap])] W' fun e w' => e = .returned (.tuple #[]) ∧ (∀ k, k < W12.heap.size → W7.heap.size ≤ k → w'.heap[k]? = W12.heap[k]?) ∧ W12.heap.size ≤ w'.heap.size ∧ Below W.heap.size W' w') := fun W' h1 h2 => by
              have k7 := (h1 W7.heap.size (by omega) (by omega)).trans rv12
              refine ⟨⟨(cell_of_row W' _ 0 _ _ _ k7).trans rfl, (cell_of_row W' _ 1 _ _ _ k7).trans rfl, (cell_of_row W' _ 2 _ _ _ k7).trans rfl, (cell_of_row W' _ 3 _ _ _ k7).trans rfl⟩, ?_⟩
              refine (spoil_expr v W7 W' W6.heap.size _ _ _ hvS (Shp.keepL v LV12 SV12 fun g k1 k2 => h1 g (by omega) (by omega)) (by omega) (by omega) hcv).mono fun e w' ⟨e1, e2⟩ => ⟨e1, fun k k1 k2 => (e2.keep k (by omega) (.inr k2)).trans (h1 k k1 (by omega)), by have := e2.below.size; omega, e2.below.mono (by omega)⟩
            have SPT : Hid (∀ W', (∀ k, k < W12.heap.size → W7.heap.size ≤ k → W'.heap[k]? = W12.heap[k]?) → W12.heap.size ≤ W'.heap.size → (W'.cell? ⟨W9.heap.size, 0, none⟩ = some (.int .i64 t9.kind) ∧ W'.cell? ⟨W9.heap.size, 1, none⟩ = some (.int .u64 (t9.a : Int)) ∧ W'.cell? ⟨W9.heap.size, 2, none⟩ = some (.int .u64 (t9.b : Int)) ∧ W'.cell? ⟨W9.heap.size, 3, none⟩ = some (.slice t9.addr t9.parts.length t9.cap)) ∧ Calls Tryz.prog 19 #[(.agg #[.int .i64 t9.kind, .int .u64 (t9.a : Int), .int .u64 (t9.b : Int), .slice t9.addr t9.parts.length t9.cap])] W' fun e w' => e = .returned (.tuple #[]) ∧ Below W.heap.size W' w') := fun W' h1 h2 => by
              have k9 := (h1 W9.heap.size (by omega) (by omega)).trans rt12
              refine ⟨⟨(cell_of_row W' _ 0 _ _ _ k9).trans rfl, (cell_of_row W' _ 1 _ _ _ k9).trans rfl, (cell_of_row W' _ 2 _ _ _ k9).trans rfl, (cell_of_row W' _ 3 _ _ _ k9).trans rfl⟩, ?_⟩
              exact (spoil_expr t9 W9 W' W8.heap.size _ _ _ htS (Shp.keepL t9 LT12 ST12 fun g k1 k2 => h1 g (by omega) (by omega)) (by omega) (by omega) hct).mono fun e w' ⟨e1, e2⟩ => ⟨e1, e2.below.mono (by omega)⟩
            have HFW : Hid (∀ Wa Wb Wc Wd, Below W12.heap.size W12 Wa → Below W.heap.size Wa Wb → Below W.heap.size Wb Wc → Below W.heap.size Wc Wd → Below W4.heap.size W4 Wd) := fun Wa Wb Wc Wd k1 k2 k3 k4 => by
              have e1 := k1.size
              exact (((hb412.trans (k1.mono hs12)).trans (k2.mono hsW)).trans (k3.mono hsW)).trans (k4.mono hsW)
            clear WK HPL HQL HEn HUL HRL BX4 LV12 LT12 SV12 ST12 LW12 rv12 rt12 r12 r112 r8 r10 hvL hvS htL htS hb45 hb46 hb48 hb68 hb810 hb1012 hb812 hb512 hb410 hb412 hbw6 hbw8 b6 b8 b10 hb7 hb9 hb5 own12 ho5 hcv hct hcu hcr hwv hv ht9 hu1 hu2 hr1 hr2 hg9 hg10 hcp hcq hcq2 s1
            generalize p.abs.put = pb at *
            generalize v.abs = va at *
            generalize t9.abs = ta at *
            generalize v.addr = XA at *
            generalize v.cap = Xc at *
            generalize v.parts.length = Xn at *
            generalize v.kind = Xk at *
            generalize (v.a : Int) = Xa at *
            generalize (v.b : Int) = Xb at *
            generalize t9.addr = YA at *
            generalize t9.cap = Yc at *
            generalize t9.parts.length = Yn at *
            generalize t9.kind = Yk at *
            generalize (t9.a : Int) = Ya at *
            generalize (t9.b : Int) = Yb at *
            go_region_held3 (fun W => (W.cell? ⟨g9, 0, none⟩ = some (.int .i64 u.kind) ∧ W.cell? ⟨g9, 1, none⟩ = some (.int .u64 (u.a : Int)) ∧ W.cell? ⟨g9, 2, none⟩ = some (.int .u64 (u.b : Int)) ∧ W.cell? ⟨g9, 3, none⟩ = some (.slice u.addr u.parts.length u.cap)) ∧ (W.cell? ⟨W7.heap.size, 0, none⟩ = some (.int .i64 Xk) ∧ W.cell? ⟨W7.heap.size, 1, none⟩ = some (.int .u64 Xa) ∧ W.cell? ⟨W7.heap.size, 2, none⟩ = some (.int .u64 Xb) ∧ W.cell? ⟨W7.heap.size, 3, none⟩ = some (.slice XA Xn Xc)) ∧ (W.cell? ⟨W9.heap.size, 0, none⟩ = some (.int .i64 Yk) ∧ W.cell? ⟨W9.heap.size, 1, none⟩ = some (.int .u64 Ya) ∧ W.cell? ⟨W9.heap.size, 2, none⟩ = some (.int .u64 Yb) ∧ W.cell? ⟨W9.heap.size, 3, none⟩ = some (.slice YA Yn Yc)) ∧ (W.cell? ⟨W10.heap.size + 1, 0, none⟩ = some (.int .i64 6) ∧ W.cell? ⟨W10.heap.size + 1, 1, none⟩ = some (.int .u64 0) ∧ W.cell? ⟨W10.heap.size + 1, 2, none⟩ = some (.int .u64 0) ∧ W.cell? ⟨W10.heap.size + 1, 3, none⟩ = some (.slice (some ⟨W10.heap.size, 0, none⟩) 2 2)))
              (first | exact S12.out _ (below_like4 (Below.refl _ _) rfl rfl rfl rfl) | exact S12.out _ ka | exact S12.out _ kb | exact S12.out _ kc | exact S12.out _ kd | exact S12.out _ ke | exact S12.out _ kf | exact S12.out _ kg)
              ((first | (go_at_call 15; ((with_reducible refine (C1.out _ (by exact below_like4 (Below.refl _ _) rfl rfl rfl rfl)).mono ?_); rintro e wa ⟨Aa, na, ca, rfl, oa, ka'⟩; have ka : Below W12.heap.size W12 wa := ⟨ka'.os, ka'.tape, ka'.output, ka'.size, ka'.block⟩)) | (go_at_call 14; ((with_reducible refine (C2.out wa Aa na ca _ ka oa).mono ?_); rintro e wb ⟨rfl, qq, rfl⟩; have kb := below_drew_ (n := qq) ka)) | (go_at_call 10; ((with_reducible refine (C3.out _ kb).mono ?_); rintro e wc ⟨z, rfl, zc1, zc2, kc'⟩; have kc := kb.trans (kc'.mono kb.size))) | (go_at_call 16; ((with_reducible refine (C4.out _ wc z kc zc1 zc2).mono ?_); rintro e wd ⟨rfl, kd'⟩; have kd := kc.trans (kd'.mono kc.size))) | (go_at_call 10; ((with_reducible refine (C5.out wd kd).mono ?_); rintro e we ⟨zz, rfl, ze1, ze2, ke'⟩; have ke := kd.trans (ke'.mono kd.size))) | (go_at_call 17; ((with_reducible refine (C6.out we ke).mono ?_); rintro e wf ⟨zt, rfl, zf1, zf2, kf'⟩; have kf := ke.trans (kf'.mono ke.size); have ze3 := ze2.under kf')) | (go_at_call 16; ((with_reducible refine (C7.out wd wf zz zt kf ze1 (ze3.more (Nat.le_refl _) kf'.size) zf1 zf2).mono ?_); rintro e wg ⟨rfl, kg'⟩; have kg := kf.trans (kg'.mono kf.size)))))
            all_goals
              have SB := SPB.out wg kg
              go_wp2_with fail
              refine SB.mono ?_
              rintro e wh ⟨rfl, m1, m2, m3⟩
              obtain ⟨⟨c0, c1, c2, c3⟩, SVw⟩ := SPV.out wh m1 m2
              clear SB
              go_wp2_with fail
              refine SVw.mono ?_
              rintro e wi ⟨rfl, m4, m5, m6⟩
              obtain ⟨⟨d0, d1, d2, d3⟩, STw⟩ := SPT.out wi m4 m5
              clear SVw c0 c1 c2 c3
              go_wp2_with fail
              refine STw.mono ?_
              rintro e wk ⟨rfl, m7⟩
              have HR := Lib_hid (HFW.out wg wh wi wk kg m3 m6 m7)
              clear STw d0 d1 d2 d3 m1 m2 m3 m4 m5 m6 m7
              go_wp2_with fail
              go_roundw
              case rel => exact ⟨t + 1, by go_num, by omega, HR⟩
              case measure => simp [intOf]; omega
          · obtain rfl : t = 2 := by omega
            have hcu : u.abs.count ≤ 1000 := by rw [HUA.out.1]; omega
            have hcr : r.abs.count ≤ 1000 := by rw [HUA.out.2]; omega
            have K1 : Hid (∀ W', Below W4.heap.size W4 W' → Calls Tryz.prog 20 #[(.agg #[.int .i64 p.kind, .int .u64 (p.a : Int), .int .u64 (p.b : Int), .slice p.addr p.parts.length p.cap])] W' fun e w' => e = .returned (.bool p.abs.rightB) ∧ Below W'.heap.size W' w') := fun W' h => by
              have hs := h.size
              exact pright_any p W' 0 w.heap.size (HPL.out W' (HBW4.out.trans (h.mono hs4))) (by omega)
            have K2 : Hid (∀ W', Below W4.heap.size W4 W' → Calls Tryz.prog 21 #[(.agg #[.int .i64 u.kind, .int .u64 (u.a : Int), .int .u64 (u.b : Int), .slice u.addr u.parts.length u.cap])] W' fun e w' => e = .returned (.bool p.abs.rightB) ∧ Below W'.heap.size W' w') := fun W' h => by
              have hs := h.size
              have := rright_any u W' l1 h1 (HUL.out W' h) (by omega) hcu
              rw [HUA.out.1] at this
              exact this
            have K3 : Hid (∀ W', Below W4.heap.size W4 W' → Calls Tryz.prog 22 #[(.agg #[.int .i64 p.kind, .int .u64 (p.a : Int), .int .u64 (p.b : Int), .slice p.addr p.parts.length p.cap])] W' fun e w' => e = .returned (.int .i64 (p.abs.depth : Nat)) ∧ Below W'.heap.size W' w') := fun W' h => by
              have hs := h.size
              exact pdepth_any p W' 0 w.heap.size (HPL.out W' (HBW4.out.trans (h.mono hs4))) (by omega) (by omega)
            have K4 : Hid (∀ W', Below W4.heap.size W4 W' → Calls Tryz.prog 23 #[(.agg #[.int .i64 u.kind, .int .u64 (u.a : Int), .int .u64 (u.b : Int), .slice u.addr u.parts.length u.cap])] W' fun e w' => e = .returned (.int .i64 (p.abs.depth : Nat)) ∧ Below W'.heap.size W' w') := fun W' h => by
              have hs := h.size
              have := rdepth_any u W' l1 h1 (HUL.out W' h) (by omega) hcu
              rw [HUA.out.1] at this
              exact this
            have K5 : Hid (∀ W', Below W4.heap.size W4 W' → Calls Tryz.prog 24 #[(.agg #[.int .i64 p.kind, .int .u64 (p.a : Int), .int .u64 (p.b : Int), .slice p.addr p.parts.length p.cap])] W' fun e w' => e = .returned (.int .i64 (p.abs.count : Nat)) ∧ Below W'.heap.size W' w') := fun W' h => by
              have hs := h.size
              exact pnodes_any p W' 0 w.heap.size (HPL.out W' (HBW4.out.trans (h.mono hs4))) (by omega) (by omega)
            have K6 : Hid (∀ W', Below W4.heap.size W4 W' → Calls Tryz.prog 25 #[(.agg #[.int .i64 u.kind, .int .u64 (u.a : Int), .int .u64 (u.b : Int), .slice u.addr u.parts.length u.cap])] W' fun e w' => e = .returned (.int .i64 (p.abs.count : Nat)) ∧ Below W'.heap.size W' w') := fun W' h => by
              have hs := h.size
              have := rnodes_any u W' l1 h1 (HUL.out W' h) (by omega) hcu
              rw [HUA.out.1] at this
              exact this
            have K7 : Hid (∀ W', Below W4.heap.size W4 W' → Calls Tryz.prog 26 #[(.agg #[.int .i64 p.kind, .int .u64 (p.a : Int), .int .u64 (p.b : Int), .slice p.addr p.parts.length p.cap]), .int .u64 (x : Int), .int .u64 (y : Int)] W' fun e w' => e = .returned (.bool (p.abs.rightB && p.abs.askB x y)) ∧ Below W'.heap.size W' w') := fun W' h => by
              have hs := h.size
              exact pholds_any x y hx hy p W' 0 w.heap.size (HPL.out W' (HBW4.out.trans (h.mono hs4))) (by omega) (by omega)
            have K8 : Hid (∀ W', Below W4.heap.size W4 W' → Calls Tryz.prog 27 #[(.agg #[.int .i64 u.kind, .int .u64 (u.a : Int), .int .u64 (u.b : Int), .slice u.addr u.parts.length u.cap]), .int .u64 (x : Int), .int .u64 (y : Int)] W' fun e w' => e = .returned (.bool (p.abs.rightB && p.abs.askB x y)) ∧ Below W'.heap.size W' w') := fun W' h => by
              have hs := h.size
              have := rholds_any x y hx hy u W' l1 h1 (HUL.out W' h) (by omega) hcu
              rw [HUA.out.1] at this
              exact this
            have K9 : Hid (∀ W', Below W4.heap.size W4 W' → Calls Tryz.prog 28 #[(.agg #[.int .i64 p.kind, .int .u64 (p.a : Int), .int .u64 (p.b : Int), .slice p.addr p.parts.length p.cap])] W' fun e w' => e = .returned (.string ⟨p.abs.text.toArray⟩) ∧ Below W'.heap.size W' w') := fun W' h => by
              have hs := h.size
              exact ptext_any p W' 0 w.heap.size w.heap.size (HPL.out W' (HBW4.out.trans (h.mono hs4))) (by omega) (HEn.out W' (HBW4.out.trans (h.mono hs4))) (by omega)
            have K10 : Hid (∀ W', Below W4.heap.size W4 W' → Calls Tryz.prog 29 #[(.agg #[.int .i64 u.kind, .int .u64 (u.a : Int), .int .u64 (u.b : Int), .slice u.addr u.parts.length u.cap])] W' fun e w' => e = .returned (.string ⟨p.abs.text.toArray⟩) ∧ Below W'.heap.size W' w') := fun W' h => by
              have hs := h.size
              have := rtext_any u W' l1 h1 (HUL.out W' h) (by omega) hcu
              rw [HUA.out.1] at this
              exact this
            have K11 : Hid (∀ W', Below W4.heap.size W4 W' → Calls Tryz.prog 30 #[(.agg #[.int .i64 p.kind, .int .u64 (p.a : Int), .int .u64 (p.b : Int), .slice p.addr p.parts.length p.cap]), (.agg #[.int .i64 q.kind, .int .u64 (q.a : Int), .int .u64 (q.b : Int), .slice q.addr q.parts.length q.cap])] W' fun e w' => e = .returned (.bool (p.abs.sameB q.abs)) ∧ Below W'.heap.size W' w') := fun W' h => by
              have hs := h.size
              exact psame_any p q W' 0 w.heap.size 0 w.heap.size (HPL.out W' (HBW4.out.trans (h.mono hs4))) (by omega) (HQL.out W' (HBW4.out.trans (h.mono hs4))) (by omega)
            have K12 : Hid (∀ W', Below W4.heap.size W4 W' → Calls Tryz.prog 16 #[(.agg #[.int .i64 u.kind, .int .u64 (u.a : Int), .int .u64 (u.b : Int), .slice u.addr u.parts.length u.cap]), (.agg #[.int .i64 r.kind, .int .u64 (r.a : Int), .int .u64 (r.b : Int), .slice r.addr r.parts.length r.cap])] W' fun e w' => e = .returned (.bool (p.abs.sameB q.abs)) ∧ Below W'.heap.size W' w') := fun W' h => by
              have hs := h.size
              have := rsame_any u r W' l1 h1 l2 h2 (HUL.out W' h) (by omega) (HRL.out W' h) (by omega)
              rw [HUA.out.1, HUA.out.2] at this
              exact this
            have K13 : Hid (∀ W', Below W4.heap.size W4 W' → Calls Tryz.prog 30 #[(.agg #[.int .i64 p.kind, .int .u64 (p.a : Int), .int .u64 (p.b : Int), .slice p.addr p.parts.length p.cap]), (.agg #[.int .i64 p.kind, .int .u64 (p.a : Int), .int .u64 (p.b : Int), .slice p.addr p.parts.length p.cap])] W' fun e w' => e = .returned (.bool true) ∧ Below W'.heap.size W' w') := fun W' h => by
              have hs := h.size
              have := psame_any p p W' 0 w.heap.size 0 w.heap.size (HPL.out W' (HBW4.out.trans (h.mono hs4))) (by omega) (HPL.out W' (HBW4.out.trans (h.mono hs4))) (by omega)
              rw [(sameB_iff _ _).2 rfl] at this
              exact this
            have K14 : Hid (∀ W', Below W4.heap.size W4 W' → Calls Tryz.prog 10 #[(.agg #[.int .i64 p.kind, .int .u64 (p.a : Int), .int .u64 (p.b : Int), .slice p.addr p.parts.length p.cap])] W' fun e w' => ∃ z : V, e = .returned (.agg #[.int .i64 z.kind, .int .u64 (z.a : Int), .int .u64 (z.b : Int), .slice z.addr z.parts.length z.cap]) ∧ z.abs = p.abs ∧ Lies w' W'.heap.size w'.heap.size z ∧ Below W'.heap.size W' w') := fun W' h => by
              have hs := h.size
              exact (dexpr_any p W' 0 w.heap.size (HPL.out W' (HBW4.out.trans (h.mono hs4))) (by omega) (by omega)).mono fun e w' ⟨z, e1, e2, e3, _, e4⟩ => ⟨z, e1, e2, e3, e4⟩
            have K15 : Hid (∀ W', Below W4.heap.size W4 W' → Calls Tryz.prog 10 #[(.agg #[.int .i64 q.kind, .int .u64 (q.a : Int), .int .u64 (q.b : Int), .slice q.addr q.parts.length q.cap])] W' fun e w' => ∃ z : V, e = .returned (.agg #[.int .i64 z.kind, .int .u64 (z.a : Int), .int .u64 (z.b : Int), .slice z.addr z.parts.length z.cap]) ∧ z.abs = q.abs ∧ Lies w' W'.heap.size w'.heap.size z ∧ Below W'.heap.size W' w') := fun W' h => by
              have hs := h.size
              exact (dexpr_any q W' 0 w.heap.size (HQL.out W' (HBW4.out.trans (h.mono hs4))) (by omega) (by omega)).mono fun e w' ⟨z, e1, e2, e3, _, e4⟩ => ⟨z, e1, e2, e3, e4⟩
            have K16 : Hid (∀ (W' W'' : World) (z : V), Below W4.heap.size W4 W'' → z.abs = p.abs → Lies W'' W'.heap.size W''.heap.size z → Calls Tryz.prog 16 #[(.agg #[.int .i64 z.kind, .int .u64 (z.a : Int), .int .u64 (z.b : Int), .slice z.addr z.parts.length z.cap]), (.agg #[.int .i64 u.kind, .int .u64 (u.a : Int), .int .u64 (u.b : Int), .slice u.addr u.parts.length u.cap])] W'' fun e w' => e = .returned (.bool true) ∧ Below W''.heap.size W'' w') := fun W' W'' z h e1 e2 => by
              have hs := h.size
              have := rsame_any z u W'' _ _ l1 h1 e2 (Nat.le_refl _) (HUL.out W'' h) (by omega)
              rw [e1, HUA.out.1, (sameB_iff _ _).2 rfl] at this
              exact this
            have K17 : Hid (∀ (W' W'' : World) (z : V), Below W4.heap.size W4 W'' → z.abs = q.abs → Lies W'' W'.heap.size W''.heap.size z → Calls Tryz.prog 16 #[(.agg #[.int .i64 z.kind, .int .u64 (z.a : Int), .int .u64 (z.b : Int), .slice z.addr z.parts.length z.cap]), (.agg #[.int .i64 r.kind, .int .u64 (r.a : Int), .int .u64 (r.b : Int), .slice r.addr r.parts.length r.cap])] W'' fun e w' => e = .returned (.bool true) ∧ Below W''.heap.size W'' w') := fun W' W'' z h e1 e2 => by
              have hs := h.size
              have := rsame_any z r W'' _ _ l2 h2 e2 (Nat.le_refl _) (HRL.out W'' h) (by omega)
              rw [e1, HUA.out.2, (sameB_iff _ _).2 rfl] at this
              exact this
            have K18 : Hid (∀ W', Below W4.heap.size W4 W' → Calls Tryz.prog 9 #[] W' fun e w' => e = .returned (.bool true) ∧ Below W'.heap.size W' w') := fun W' h => WK.out W' (HBW4.out.trans (h.mono hs4))
            clear WK HPL HQL HEn HUL HRL hcu hcr hu1 hu2 hr1 hr2 hg9 hg10 hcp hcq hcq2 s1
            generalize (p.abs.rightB && p.abs.askB x y) = hb at *
            generalize p.abs.rightB = rb at *
            generalize p.abs.depth = dn at *
            generalize p.abs.count = nn at *
            generalize p.abs.text = tx at *
            generalize p.abs.sameB q.abs = sb at *
            generalize p.addr = PA at *
            generalize p.cap = Pc at *
            generalize p.parts.length = Pn at *
            generalize p.kind = Pk at *
            generalize (p.a : Int) = Pa at *
            generalize (p.b : Int) = Pb at *
            generalize q.addr = QA at *
            generalize q.cap = Qc at *
            generalize q.parts.length = Qn at *
            generalize q.kind = Qk at *
            generalize (q.a : Int) = Qa at *
            generalize (q.b : Int) = Qb at *
            generalize u.addr = UA at *
            generalize u.cap = Uc at *
            generalize u.parts.length = Un at *
            generalize u.kind = Uk at *
            generalize (u.a : Int) = Ua at *
            generalize (u.b : Int) = Ub at *
            generalize r.addr = RA at *
            generalize r.cap = Rc at *
            generalize r.parts.length = Rn at *
            generalize r.kind = Rk at *
            generalize (r.a : Int) = Ra at *
            generalize (r.b : Int) = Rb at *
            go_wp2_with fail
            go_region_held3 (fun W => (W.cell? ⟨w.heap.size, 0, none⟩ = some (.int .i64 Pk) ∧ W.cell? ⟨w.heap.size, 1, none⟩ = some (.int .u64 Pa) ∧ W.cell? ⟨w.heap.size, 2, none⟩ = some (.int .u64 Pb) ∧ W.cell? ⟨w.heap.size, 3, none⟩ = some (.slice PA Pn Pc)) ∧ (W.cell? ⟨w.heap.size + 1, 0, none⟩ = some (.int .i64 Qk) ∧ W.cell? ⟨w.heap.size + 1, 1, none⟩ = some (.int .u64 Qa) ∧ W.cell? ⟨w.heap.size + 1, 2, none⟩ = some (.int .u64 Qb) ∧ W.cell? ⟨w.heap.size + 1, 3, none⟩ = some (.slice QA Qn Qc)) ∧ (W.cell? ⟨g9, 0, none⟩ = some (.int .i64 Uk) ∧ W.cell? ⟨g9, 1, none⟩ = some (.int .u64 Ua) ∧ W.cell? ⟨g9, 2, none⟩ = some (.int .u64 Ub) ∧ W.cell? ⟨g9, 3, none⟩ = some (.slice UA Un Uc)) ∧ (W.cell? ⟨g10, 0, none⟩ = some (.int .i64 Rk) ∧ W.cell? ⟨g10, 1, none⟩ = some (.int .u64 Ra) ∧ W.cell? ⟨g10, 2, none⟩ = some (.int .u64 Rb) ∧ W.cell? ⟨g10, 3, none⟩ = some (.slice RA Rn Rc)))
              (first | exact BX4.out _ (below_like4 hbW.out rfl rfl rfl rfl) | exact BX4.out _ ha | exact BX4.out _ hb | exact BX4.out _ hc | exact BX4.out _ hd | exact BX4.out _ he | exact BX4.out _ hf | exact BX4.out _ hg | exact BX4.out _ hh | exact BX4.out _ hi | exact BX4.out _ hj)
              ((first | (go_at_call 20; ((with_reducible refine (K1.out _ (by exact below_like4 hbW.out rfl rfl rfl rfl)).mono ?_); rintro e wa ⟨rfl, ha'⟩; have ha : Below W4.heap.size W4 wa := hbW.out.trans (⟨ha'.os, ha'.tape, ha'.output, ha'.size, fun i hi => ha'.block i (Nat.lt_of_lt_of_le hi hsW)⟩ : Below W4.heap.size W wa))) | (go_at_call 21; ((with_reducible refine (K2.out wa ha).mono ?_); rintro e wb ⟨rfl, hb'⟩; have hb := ha.trans (hb'.mono ha.size))) | (go_at_call 22; ((with_reducible refine (K3.out wb hb).mono ?_); rintro e wc ⟨rfl, hc'⟩; have hc := hb.trans (hc'.mono hb.size))) | (go_at_call 23; ((with_reducible refine (K4.out wc hc).mono ?_); rintro e wd ⟨rfl, hd'⟩; have hd := hc.trans (hd'.mono hc.size))) | (go_at_call 24; ((with_reducible refine (K5.out wd hd).mono ?_); rintro e we ⟨rfl, he'⟩; have he := hd.trans (he'.mono hd.size))) | (go_at_call 25; ((with_reducible refine (K6.out we he).mono ?_); rintro e wf ⟨rfl, hf'⟩; have hf := he.trans (hf'.mono he.size))) | (go_at_call 26; ((with_reducible refine (K7.out wf hf).mono ?_); rintro e wg ⟨rfl, hg'⟩; have hg := hf.trans (hg'.mono hf.size))) | (go_at_call 27; ((with_reducible refine (K8.out wg hg).mono ?_); rintro e wh ⟨rfl, hh'⟩; have hh := hg.trans (hh'.mono hg.size))) | (go_at_call 28; ((with_reducible refine (K9.out wh hh).mono ?_); rintro e wi ⟨rfl, hi'⟩; have hi := hh.trans (hi'.mono hh.size))) | (go_at_call 29; ((with_reducible refine (K10.out wi hi).mono ?_); rintro e wj ⟨rfl, hj'⟩; have hj := hi.trans (hj'.mono hi.size)))))
            all_goals
              clear K1 K2 K3 K4 K5 K6 K7 K8 K9 K10
              go_wp2_with fail
              go_region_held3 (fun W => (W.cell? ⟨w.heap.size, 0, none⟩ = some (.int .i64 Pk) ∧ W.cell? ⟨w.heap.size, 1, none⟩ = some (.int .u64 Pa) ∧ W.cell? ⟨w.heap.size, 2, none⟩ = some (.int .u64 Pb) ∧ W.cell? ⟨w.heap.size, 3, none⟩ = some (.slice PA Pn Pc)) ∧ (W.cell? ⟨w.heap.size + 1, 0, none⟩ = some (.int .i64 Qk) ∧ W.cell? ⟨w.heap.size + 1, 1, none⟩ = some (.int .u64 Qa) ∧ W.cell? ⟨w.heap.size + 1, 2, none⟩ = some (.int .u64 Qb) ∧ W.cell? ⟨w.heap.size + 1, 3, none⟩ = some (.slice QA Qn Qc)) ∧ (W.cell? ⟨g9, 0, none⟩ = some (.int .i64 Uk) ∧ W.cell? ⟨g9, 1, none⟩ = some (.int .u64 Ua) ∧ W.cell? ⟨g9, 2, none⟩ = some (.int .u64 Ub) ∧ W.cell? ⟨g9, 3, none⟩ = some (.slice UA Un Uc)) ∧ (W.cell? ⟨g10, 0, none⟩ = some (.int .i64 Rk) ∧ W.cell? ⟨g10, 1, none⟩ = some (.int .u64 Ra) ∧ W.cell? ⟨g10, 2, none⟩ = some (.int .u64 Rb) ∧ W.cell? ⟨g10, 3, none⟩ = some (.slice RA Rn Rc)))
                (first | exact BX4.out _ (below_like4 hj rfl rfl rfl rfl) | exact BX4.out _ ja | exact BX4.out _ jb | exact BX4.out _ jc | exact BX4.out _ jd | exact BX4.out _ je | exact BX4.out _ jf | exact BX4.out _ jg | exact BX4.out _ jh)
                ((first | (go_at_call 30; ((with_reducible refine (K11.out _ (by exact below_like4 hj rfl rfl rfl rfl)).mono ?_); rintro e va ⟨rfl, ja'⟩; have ja : Below W4.heap.size W4 va := hj.trans (⟨ja'.os, ja'.tape, ja'.output, ja'.size, fun i hi => ja'.block i (Nat.lt_of_lt_of_le hi hj.size)⟩ : Below W4.heap.size wj va))) | (go_at_call 16; ((with_reducible refine (K12.out va ja).mono ?_); rintro e vb ⟨rfl, jb'⟩; have jb := ja.trans (jb'.mono ja.size))) | (go_at_call 30; ((with_reducible refine (K13.out vb jb).mono ?_); rintro e vc ⟨rfl, jc'⟩; have jc := jb.trans (jc'.mono jb.size))) | (go_at_call 10; ((with_reducible refine (K14.out vc jc).mono ?_); rintro e vd ⟨z, rfl, zd1, zd2, jd'⟩; have jd := jc.trans (jd'.mono jc.size))) | (go_at_call 16; ((with_reducible refine (K16.out vc vd z jd zd1 zd2).mono ?_); rintro e ve ⟨rfl, je'⟩; have je := jd.trans (je'.mono jd.size))) | (go_at_call 10; ((with_reducible refine (K15.out ve je).mono ?_); rintro e vf ⟨zz, rfl, zf1, zf2, jf'⟩; have jf := je.trans (jf'.mono je.size))) | (go_at_call 16; ((with_reducible refine (K17.out ve vf zz jf zf1 zf2).mono ?_); rintro e vg ⟨rfl, jg'⟩; have jg := jf.trans (jg'.mono jf.size))) | (go_at_call 9; ((with_reducible refine (K18.out vg jg).mono ?_); rintro e vh ⟨rfl, jh'⟩; have jh := jg.trans (jh'.mono jg.size)))))
              all_goals
                have hbz := HBW4.out.trans (jh.mono hs4)
                go_wp2_with fail
                go_ret
                exact ⟨rfl, hbz⟩
    · rw [decide_eq_false hcq]
      have W1 := WK.out w3 hbw3
      go_wp2_with fail
      refine W1.mono ?_
      rintro e w4 ⟨rfl, hb4⟩
      have hbz := hbw3.trans (hb4.mono hbw3.size)
      go_wp2_with fail
      go_ret
      exact ⟨rfl, hbz⟩
  · rw [decide_eq_false hcp]
    have W1 := WK.out w2 hbw2
    go_wp2_with fail
    refine W1.mono ?_
    rintro e w4 ⟨rfl, hb4⟩
    have hbz := hbw2.trans (hb4.mono hbw2.size)
    go_wp2_with fail
    go_ret
    exact ⟨rfl, hbz⟩

end Go.Proofs.YtiijdacnfhiagaaGreatDoor
