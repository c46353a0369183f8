/-
  Layer 5: Right, the document's.
  Layer 5: numbers, the document's.
  Layer 5: Put, the program's.
-/
import Derived.Test.YtiiiklenhmhccaaGreatDoorZpVds
import Derived.Test.YtiiiklenhmhccaaGreatDoorZpVri

namespace Go.Proofs.YtiiiklenhmhccaaGreatDoor
open Go Go.RowKit
set_option linter.unusedVariables false
def Rv.bare (r : Rv) : Rv :=
  ⟨r.kind, r.t, if r.kind = 2 ∨ r.kind = 3 ∨ r.kind = 4 then r.x else 0, if r.kind = 2 then r.w else 0, if r.kind = 2 then r.n else 0, if r.kind = 3 then r.v else 0,
    if r.kind = 5 then r.p else .node 0 0 0 none 0 [], if r.kind = 5 then r.A else none, if r.kind = 5 then r.c else 0, if r.kind = 5 then r.es else []⟩
theorem same_zero (t : T) : T.sameB (.node 0 0 0 []) t = t.sameB (.node 0 0 0 []) := by
  rw [Bool.eq_iff_iff, sameB_iff, sameB_iff]
  exact ⟨fun h => h.symm, fun h => h.symm⟩
theorem bare_same {r : Rv} (h : 1 ≤ r.kind ∧ r.kind ≤ 7) (h5 : r.kind = 5 → r.p.abs.rightB = true) : r.bare.abs.sameB r.abs = r.abs.rightB := by
  obtain ⟨k, t, x, wn, nn, v, p, Ae, ce, es⟩ := r
  simp only at h h5
  have hk : k = 1 ∨ k = 2 ∨ k = 3 ∨ k = 4 ∨ k = 5 ∨ k = 6 ∨ k = 7 := by omega
  have hz : (V.node 0 0 0 none 0 []).abs = .node 0 0 0 [] := by rw [V.abs, V.absL]
  have e0 : ∀ n : Nat, (0 = n) = (n = 0) := fun n => propext eq_comm
  rcases hk with rfl | rfl | rfl | rfl | rfl | rfl | rfl <;>
    (rw [Bool.eq_iff_iff]; simp [Rv.bare, Rv.abs, Rc.sameB, Rc.rightB, Rc.knownB, Rc.bareB, Rc.emptyB, ofB, List.range, List.range.loop, hz, same_zero, sameB_self, h5, e0, and_assoc]; try (constructor <;> (intro h; simp_all)))
theorem bare_lies {w : World} {lo hi : Nat} {r : Rv} (h : RLies w lo hi r) : RLies w lo hi r.bare := by
  refine ⟨h.kind, h.t, ?_, ?_, ?_, ?_, ?_, ?_, ?_, ?_, ?_⟩ <;> unfold Rv.bare <;> simp only
  · split; exact h.x; omega
  · split; exact h.wn; omega
  · split; exact h.n; omega
  · split; exact h.v; omega
  · split; exact h.p; exact lies_zero _ _ _
  · by_cases h5 : r.kind = 5
    · simp only [if_pos h5]; exact h.es
    · simp only [if_neg h5]; exact Rd.zero
  · by_cases h5 : r.kind = 5
    · simp only [if_pos h5]; exact h.cap
    · simp only [if_neg h5]; exact ⟨Nat.le_refl _, by omega⟩
  · by_cases h5 : r.kind = 5
    · simp only [if_pos h5]; exact h.ok
    · simp only [if_neg h5]; intro e he; cases he
  · by_cases h5 : r.kind = 5
    · simp only [if_pos h5]; exact h.lo
    · simp only [if_neg h5]; intro ad e; cases e
set_option maxRecDepth 100000 in
set_option maxHeartbeats 6400000 in
theorem rright5_any (r : Rv) (w : World) (lo hi : Nat) (hL : RLies w lo hi r) (hhi : hi ≤ w.heap.size) (hct : r.p.abs.count ≤ 1000) :
    Calls Tryz.prog 17 #[r.val] w fun e w' => e = .returned (.bool r.abs.rightB) ∧ Below w.heap.size w w' := by
  have SM : Hid (∀ W, Below w.heap.size w W → Calls Tryz.prog 21 #[r.bare.val, r.val] W fun e w' => e = .returned (.bool (r.bare.abs.sameB r.abs)) ∧ Below W.heap.size W w') := fun W hW => rsame5_any r.bare r W lo hi lo hi (bare_lies (hL.under (hW.mono hhi))) (Nat.le_trans hhi hW.size) (hL.under (hW.mono hhi)) (Nat.le_trans hhi hW.size)
  have PR : Hid (∀ W, Below w.heap.size w W → Calls Tryz.prog 51 #[r.p.val] W fun e w' => e = .returned (.bool r.p.abs.rightB) ∧ Below W.heap.size W w') := fun W hW => rright_any r.p W lo hi (hL.p.under (hW.mono hhi)) (Nat.le_trans hhi hW.size) hct
  have HB : Hid (1 ≤ r.kind ∧ r.kind ≤ 7 → (r.kind = 5 → r.p.abs.rightB = true) → r.bare.abs.sameB r.abs = r.abs.rightB) := fun h h5 => bare_same h h5
  have HN : Hid (¬ (1 ≤ r.kind ∧ r.kind ≤ 7) → r.abs.rightB = false) := fun h => (rightB_parts r.abs).1 (by show decide (1 ≤ r.kind ∧ r.kind ≤ 7) = false; simpa using h)
  have HP : Hid (r.kind = 5 → r.p.abs.rightB = false → r.abs.rightB = false) := fun h5 hp => by
    unfold Rc.rightB
    rw [show r.abs.p = r.p.abs from rfl, hp, show r.abs.kind = 5 from h5]
    simp
  clear hL hct
  generalize r.abs.rightB = rr at *
  generalize r.bare.abs.sameB r.abs = sb at *
  obtain ⟨k, t, x, wn, nn, v, p, Ae, ce, es⟩ := r
  generalize p.abs.rightB = pr at *
  simp only at HB HN HP
  simp only [Rv.val, Rv.arr, Rv.sl, V.sl]
  by_cases hk : 1 ≤ k ∧ k ≤ 7
  · have hk7 : k = 1 ∨ k = 2 ∨ k = 3 ∨ k = 4 ∨ k = 5 ∨ k = 6 ∨ k = 7 := by omega
    rcases hk7 with rfl | rfl | rfl | rfl | rfl | rfl | rfl
    · have hb2 := (below_new w (.cells #[.int .i64 1, .int .u64 (t : Int), .int .u64 (x : Int), .int .u64 (wn : Int), .int .u64 (nn : Int), .int .u64 (v : Int), .int .i64 p.kind, .int .u64 (p.a : Int), .int .u64 (p.b : Int), .slice p.addr p.parts.length p.cap, .slice Ae es.length ce] 39)).alloc (by simp) (.cells #[.int .i64 1, .int .u64 (t : Int), .int .u64 0, .int .u64 0, .int .u64 0, .int .u64 0, .int .i64 0, .int .u64 0, .int .u64 0, .slice none 0 0, .slice none 0 0] 39)
      have SK : Hid (∀ W, Below w.heap.size w W → Calls Tryz.prog 21 #[.agg #[.int .i64 1, .int .u64 (t : Int), .int .u64 0, .int .u64 0, .int .u64 0, .int .u64 0, .int .i64 0, .int .u64 0, .int .u64 0, .slice none 0 0, .slice none 0 0], .agg #[.int .i64 1, .int .u64 (t : Int), .int .u64 (x : Int), .int .u64 (wn : Int), .int .u64 (nn : Int), .int .u64 (v : Int), .int .i64 p.kind, .int .u64 (p.a : Int), .int .u64 (p.b : Int), .slice p.addr p.parts.length p.cap, .slice Ae es.length ce]] W fun e w' => e = .returned (.bool sb) ∧ Below W.heap.size W w') := SM
      have HF := Lib_hid (HB.out (by omega) (fun h => absurd h (by decide)))
      have hN1 : w.heap.size ≤ w.heap.size + 1 := by omega
      clear SM PR HN HP HB hk
      go_enter Tryz.func17, Tryz.ntmps17
      go_wp2_with fail
      refine (SK.out _ hb2).mono ?_
      rintro e w3 ⟨rfl, hb3⟩
      have hb4 : Below w.heap.size w w3 := hb2.trans (hb3.mono (by simp; omega))
      clear hb3 hb2 SK
      go_wp2
      go_ret
      exact ⟨ret_b HF.out, hb4⟩
    · have hb2 := (below_new w (.cells #[.int .i64 2, .int .u64 (t : Int), .int .u64 (x : Int), .int .u64 (wn : Int), .int .u64 (nn : Int), .int .u64 (v : Int), .int .i64 p.kind, .int .u64 (p.a : Int), .int .u64 (p.b : Int), .slice p.addr p.parts.length p.cap, .slice Ae es.length ce] 39)).alloc (by simp) (.cells #[.int .i64 2, .int .u64 (t : Int), .int .u64 (x : Int), .int .u64 (wn : Int), .int .u64 (nn : Int), .int .u64 0, .int .i64 0, .int .u64 0, .int .u64 0, .slice none 0 0, .slice none 0 0] 39)
      have SK : Hid (∀ W, Below w.heap.size w W → Calls Tryz.prog 21 #[.agg #[.int .i64 2, .int .u64 (t : Int), .int .u64 (x : Int), .int .u64 (wn : Int), .int .u64 (nn : Int), .int .u64 0, .int .i64 0, .int .u64 0, .int .u64 0, .slice none 0 0, .slice none 0 0], .agg #[.int .i64 2, .int .u64 (t : Int), .int .u64 (x : Int), .int .u64 (wn : Int), .int .u64 (nn : Int), .int .u64 (v : Int), .int .i64 p.kind, .int .u64 (p.a : Int), .int .u64 (p.b : Int), .slice p.addr p.parts.length p.cap, .slice Ae es.length ce]] W fun e w' => e = .returned (.bool sb) ∧ Below W.heap.size W w') := SM
      have HF := Lib_hid (HB.out (by omega) (fun h => absurd h (by decide)))
      have hN1 : w.heap.size ≤ w.heap.size + 1 := by omega
      clear SM PR HN HP HB hk
      go_enter Tryz.func17, Tryz.ntmps17
      go_wp2_with fail
      refine (SK.out _ hb2).mono ?_
      rintro e w3 ⟨rfl, hb3⟩
      have hb4 : Below w.heap.size w w3 := hb2.trans (hb3.mono (by simp; omega))
      clear hb3 hb2 SK
      go_wp2
      go_ret
      exact ⟨ret_b HF.out, hb4⟩
    · have hb2 := (below_new w (.cells #[.int .i64 3, .int .u64 (t : Int), .int .u64 (x : Int), .int .u64 (wn : Int), .int .u64 (nn : Int), .int .u64 (v : Int), .int .i64 p.kind, .int .u64 (p.a : Int), .int .u64 (p.b : Int), .slice p.addr p.parts.length p.cap, .slice Ae es.length ce] 39)).alloc (by simp) (.cells #[.int .i64 3, .int .u64 (t : Int), .int .u64 (x : Int), .int .u64 0, .int .u64 0, .int .u64 (v : Int), .int .i64 0, .int .u64 0, .int .u64 0, .slice none 0 0, .slice none 0 0] 39)
      have SK : Hid (∀ W, Below w.heap.size w W → Calls Tryz.prog 21 #[.agg #[.int .i64 3, .int .u64 (t : Int), .int .u64 (x : Int), .int .u64 0, .int .u64 0, .int .u64 (v : Int), .int .i64 0, .int .u64 0, .int .u64 0, .slice none 0 0, .slice none 0 0], .agg #[.int .i64 3, .int .u64 (t : Int), .int .u64 (x : Int), .int .u64 (wn : Int), .int .u64 (nn : Int), .int .u64 (v : Int), .int .i64 p.kind, .int .u64 (p.a : Int), .int .u64 (p.b : Int), .slice p.addr p.parts.length p.cap, .slice Ae es.length ce]] W fun e w' => e = .returned (.bool sb) ∧ Below W.heap.size W w') := SM
      have HF := Lib_hid (HB.out (by omega) (fun h => absurd h (by decide)))
      have hN1 : w.heap.size ≤ w.heap.size + 1 := by omega
      clear SM PR HN HP HB hk
      go_enter Tryz.func17, Tryz.ntmps17
      go_wp2_with fail
      refine (SK.out _ hb2).mono ?_
      rintro e w3 ⟨rfl, hb3⟩
      have hb4 : Below w.heap.size w w3 := hb2.trans (hb3.mono (by simp; omega))
      clear hb3 hb2 SK
      go_wp2
      go_ret
      exact ⟨ret_b HF.out, hb4⟩
    · have hb2 := (below_new w (.cells #[.int .i64 4, .int .u64 (t : Int), .int .u64 (x : Int), .int .u64 (wn : Int), .int .u64 (nn : Int), .int .u64 (v : Int), .int .i64 p.kind, .int .u64 (p.a : Int), .int .u64 (p.b : Int), .slice p.addr p.parts.length p.cap, .slice Ae es.length ce] 39)).alloc (by simp) (.cells #[.int .i64 4, .int .u64 (t : Int), .int .u64 (x : Int), .int .u64 0, .int .u64 0, .int .u64 0, .int .i64 0, .int .u64 0, .int .u64 0, .slice none 0 0, .slice none 0 0] 39)
      have SK : Hid (∀ W, Below w.heap.size w W → Calls Tryz.prog 21 #[.agg #[.int .i64 4, .int .u64 (t : Int), .int .u64 (x : Int), .int .u64 0, .int .u64 0, .int .u64 0, .int .i64 0, .int .u64 0, .int .u64 0, .slice none 0 0, .slice none 0 0], .agg #[.int .i64 4, .int .u64 (t : Int), .int .u64 (x : Int), .int .u64 (wn : Int), .int .u64 (nn : Int), .int .u64 (v : Int), .int .i64 p.kind, .int .u64 (p.a : Int), .int .u64 (p.b : Int), .slice p.addr p.parts.length p.cap, .slice Ae es.length ce]] W fun e w' => e = .returned (.bool sb) ∧ Below W.heap.size W w') := SM
      have HF := Lib_hid (HB.out (by omega) (fun h => absurd h (by decide)))
      have hN1 : w.heap.size ≤ w.heap.size + 1 := by omega
      clear SM PR HN HP HB hk
      go_enter Tryz.func17, Tryz.ntmps17
      go_wp2_with fail
      refine (SK.out _ hb2).mono ?_
      rintro e w3 ⟨rfl, hb3⟩
      have hb4 : Below w.heap.size w w3 := hb2.trans (hb3.mono (by simp; omega))
      clear hb3 hb2 SK
      go_wp2
      go_ret
      exact ⟨ret_b HF.out, hb4⟩
    · have hb2 := (below_new w (.cells #[.int .i64 5, .int .u64 (t : Int), .int .u64 (x : Int), .int .u64 (wn : Int), .int .u64 (nn : Int), .int .u64 (v : Int), .int .i64 p.kind, .int .u64 (p.a : Int), .int .u64 (p.b : Int), .slice p.addr p.parts.length p.cap, .slice Ae es.length ce] 39)).alloc (by simp) (.cells #[.int .i64 5, .int .u64 (t : Int), .int .u64 0, .int .u64 0, .int .u64 0, .int .u64 0, .int .i64 0, .int .u64 0, .int .u64 0, .slice none 0 0, .slice none 0 0] 39)
      have hx2 := (heap_alloc_old (w.alloc (.cells #[.int .i64 5, .int .u64 (t : Int), .int .u64 (x : Int), .int .u64 (wn : Int), .int .u64 (nn : Int), .int .u64 (v : Int), .int .i64 p.kind, .int .u64 (p.a : Int), .int .u64 (p.b : Int), .slice p.addr p.parts.length p.cap, .slice Ae es.length ce] 39)) (.cells #[.int .i64 5, .int .u64 (t : Int), .int .u64 0, .int .u64 0, .int .u64 0, .int .u64 0, .int .i64 0, .int .u64 0, .int .u64 0, .slice none 0 0, .slice none 0 0] 39) (by simp)).trans (heap_alloc_new w (.cells #[.int .i64 5, .int .u64 (t : Int), .int .u64 (x : Int), .int .u64 (wn : Int), .int .u64 (nn : Int), .int .u64 (v : Int), .int .i64 p.kind, .int .u64 (p.a : Int), .int .u64 (p.b : Int), .slice p.addr p.parts.length p.cap, .slice Ae es.length ce] 39))
      have hy2 := heap_alloc_new (w.alloc (.cells #[.int .i64 5, .int .u64 (t : Int), .int .u64 (x : Int), .int .u64 (wn : Int), .int .u64 (nn : Int), .int .u64 (v : Int), .int .i64 p.kind, .int .u64 (p.a : Int), .int .u64 (p.b : Int), .slice p.addr p.parts.length p.cap, .slice Ae es.length ce] 39)) (.cells #[.int .i64 5, .int .u64 (t : Int), .int .u64 0, .int .u64 0, .int .u64 0, .int .u64 0, .int .i64 0, .int .u64 0, .int .u64 0, .slice none 0 0, .slice none 0 0] 39)
      rw [show (w.alloc (.cells #[.int .i64 5, .int .u64 (t : Int), .int .u64 (x : Int), .int .u64 (wn : Int), .int .u64 (nn : Int), .int .u64 (v : Int), .int .i64 p.kind, .int .u64 (p.a : Int), .int .u64 (p.b : Int), .slice p.addr p.parts.length p.cap, .slice Ae es.length ce] 39)).heap.size = w.heap.size + 1 by simp] at hy2
      have P1 := PR.out _ hb2
      have SK : Hid (∀ W, Below w.heap.size w W → Calls Tryz.prog 21 #[.agg #[.int .i64 5, .int .u64 (t : Int), .int .u64 0, .int .u64 0, .int .u64 0, .int .u64 0, .int .i64 p.kind, .int .u64 (p.a : Int), .int .u64 (p.b : Int), .slice p.addr p.parts.length p.cap, .slice Ae es.length ce], .agg #[.int .i64 5, .int .u64 (t : Int), .int .u64 (x : Int), .int .u64 (wn : Int), .int .u64 (nn : Int), .int .u64 (v : Int), .int .i64 p.kind, .int .u64 (p.a : Int), .int .u64 (p.b : Int), .slice p.addr p.parts.length p.cap, .slice Ae es.length ce]] W fun e w' => e = .returned (.bool sb) ∧ Below W.heap.size W w') := SM
      simp only [V.val, V.sl] at P1
      clear SM PR HN
      go_enter Tryz.func17, Tryz.ntmps17
      go_wp2_with fail
      refine P1.mono ?_
      rintro e w3 ⟨rfl, hb3⟩
      have hx3 := (hb3.block _ (lt_of_block hx2)).trans hx2
      have hy3 := (hb3.block _ (lt_of_block hy2)).trans hy2
      replace hb3 := hb2.trans (hb3.mono hb2.size)
      clear P1 hx2 hy2 hb2
      cases pr with
      | false =>
        have HF : Hid (rr = false) := Lib_hid (HP.out (by trivial) (by trivial))
        go_wp2
        go_ret
        exact ⟨ret_b HF.out.symm, hb3⟩
      | true =>
        have HF : Hid (sb = rr) := Lib_hid (HB.out (by omega) (by simp))
        have hN1 : w.heap.size ≤ w.heap.size + 1 := by omega
        have hb4 := ((((hb3.setCell (p := ⟨w.heap.size + 1, 6, none⟩) hN1 (.int .i64 p.kind)).setCell (p := ⟨w.heap.size + 1, 7, none⟩) hN1 (.int .u64 (p.a : Int))).setCell (p := ⟨w.heap.size + 1, 8, none⟩) hN1 (.int .u64 (p.b : Int))).setCell (p := ⟨w.heap.size + 1, 9, none⟩) hN1 (.slice p.addr p.parts.length p.cap)).setCell (p := ⟨w.heap.size + 1, 10, none⟩) hN1 (.slice Ae es.length ce)
        have S1 := SK.out _ hb4
        obtain ⟨a0, a1, a2, a3, a4, a5, a6, a7, a8, a9, a10⟩ := rec_cells hx3
        obtain ⟨d0, d1, d2, d3, d4, d5, d6, d7, d8, d9, d10⟩ := rec_cells hy3
        have z6 := frozen_of_row w3 _ 6 _ _ hy3
        have z7 := frozen_of_row w3 _ 7 _ _ hy3
        have z8 := frozen_of_row w3 _ 8 _ _ hy3
        have z9 := frozen_of_row w3 _ 9 _ _ hy3
        have z10 := frozen_of_row w3 _ 10 _ _ hy3
        clear hx3 hy3 hb3 SK HB HP hk
        go_wp2_with fail
        refine S1.mono ?_
        rintro e w4 ⟨rfl, hb5⟩
        have hb6 := hb4.trans (hb5.mono hb4.size)
        clear hb4 hb5 S1
        go_wp2
        go_ret
        exact ⟨ret_b HF.out, hb6⟩
    · have hb2 := (below_new w (.cells #[.int .i64 6, .int .u64 (t : Int), .int .u64 (x : Int), .int .u64 (wn : Int), .int .u64 (nn : Int), .int .u64 (v : Int), .int .i64 p.kind, .int .u64 (p.a : Int), .int .u64 (p.b : Int), .slice p.addr p.parts.length p.cap, .slice Ae es.length ce] 39)).alloc (by simp) (.cells #[.int .i64 6, .int .u64 (t : Int), .int .u64 0, .int .u64 0, .int .u64 0, .int .u64 0, .int .i64 0, .int .u64 0, .int .u64 0, .slice none 0 0, .slice none 0 0] 39)
      have SK : Hid (∀ W, Below w.heap.size w W → Calls Tryz.prog 21 #[.agg #[.int .i64 6, .int .u64 (t : Int), .int .u64 0, .int .u64 0, .int .u64 0, .int .u64 0, .int .i64 0, .int .u64 0, .int .u64 0, .slice none 0 0, .slice none 0 0], .agg #[.int .i64 6, .int .u64 (t : Int), .int .u64 (x : Int), .int .u64 (wn : Int), .int .u64 (nn : Int), .int .u64 (v : Int), .int .i64 p.kind, .int .u64 (p.a : Int), .int .u64 (p.b : Int), .slice p.addr p.parts.length p.cap, .slice Ae es.length ce]] W fun e w' => e = .returned (.bool sb) ∧ Below W.heap.size W w') := SM
      have HF := Lib_hid (HB.out (by omega) (fun h => absurd h (by decide)))
      have hN1 : w.heap.size ≤ w.heap.size + 1 := by omega
      clear SM PR HN HP HB hk
      go_enter Tryz.func17, Tryz.ntmps17
      go_wp2_with fail
      refine (SK.out _ hb2).mono ?_
      rintro e w3 ⟨rfl, hb3⟩
      have hb4 : Below w.heap.size w w3 := hb2.trans (hb3.mono (by simp; omega))
      clear hb3 hb2 SK
      go_wp2
      go_ret
      exact ⟨ret_b HF.out, hb4⟩
    · have hb2 := (below_new w (.cells #[.int .i64 7, .int .u64 (t : Int), .int .u64 (x : Int), .int .u64 (wn : Int), .int .u64 (nn : Int), .int .u64 (v : Int), .int .i64 p.kind, .int .u64 (p.a : Int), .int .u64 (p.b : Int), .slice p.addr p.parts.length p.cap, .slice Ae es.length ce] 39)).alloc (by simp) (.cells #[.int .i64 7, .int .u64 (t : Int), .int .u64 0, .int .u64 0, .int .u64 0, .int .u64 0, .int .i64 0, .int .u64 0, .int .u64 0, .slice none 0 0, .slice none 0 0] 39)
      have SK : Hid (∀ W, Below w.heap.size w W → Calls Tryz.prog 21 #[.agg #[.int .i64 7, .int .u64 (t : Int), .int .u64 0, .int .u64 0, .int .u64 0, .int .u64 0, .int .i64 0, .int .u64 0, .int .u64 0, .slice none 0 0, .slice none 0 0], .agg #[.int .i64 7, .int .u64 (t : Int), .int .u64 (x : Int), .int .u64 (wn : Int), .int .u64 (nn : Int), .int .u64 (v : Int), .int .i64 p.kind, .int .u64 (p.a : Int), .int .u64 (p.b : Int), .slice p.addr p.parts.length p.cap, .slice Ae es.length ce]] W fun e w' => e = .returned (.bool sb) ∧ Below W.heap.size W w') := SM
      have HF := Lib_hid (HB.out (by omega) (fun h => absurd h (by decide)))
      have hN1 : w.heap.size ≤ w.heap.size + 1 := by omega
      clear SM PR HN HP HB hk
      go_enter Tryz.func17, Tryz.ntmps17
      go_wp2_with fail
      refine (SK.out _ hb2).mono ?_
      rintro e w3 ⟨rfl, hb3⟩
      have hb4 : Below w.heap.size w w3 := hb2.trans (hb3.mono (by simp; omega))
      clear hb3 hb2 SK
      go_wp2
      go_ret
      exact ⟨ret_b HF.out, hb4⟩
  · have HF := Lib_hid (HN.out hk)
    have hb2 := (below_new w (.cells #[.int .i64 k, .int .u64 (t : Int), .int .u64 (x : Int), .int .u64 (wn : Int), .int .u64 (nn : Int), .int .u64 (v : Int), .int .i64 p.kind, .int .u64 (p.a : Int), .int .u64 (p.b : Int), .slice p.addr p.parts.length p.cap, .slice Ae es.length ce] 39)).alloc (by simp) (.cells #[.int .i64 k, .int .u64 (t : Int), .int .u64 0, .int .u64 0, .int .u64 0, .int .u64 0, .int .i64 0, .int .u64 0, .int .u64 0, .slice none 0 0, .slice none 0 0] 39)
    have n1 : ¬ k = 1 := by omega
    have n2 : ¬ k = 2 := by omega
    have n3 : ¬ k = 3 := by omega
    have n4 : ¬ k = 4 := by omega
    have n5 : ¬ k = 5 := by omega
    have n6 : ¬ k = 6 := by omega
    have n7 : ¬ k = 7 := by omega
    clear SM PR HN HP HB hk
    go_enter Tryz.func17, Tryz.ntmps17
    go_wp2
    go_ret
    exact ⟨ret_b HF.out.symm, hb2⟩
end Go.Proofs.YtiiiklenhmhccaaGreatDoor

namespace Go.Proofs.YtiiiklenhmhccaaGreatDoor
open Go Go.RowKit
set_option linter.unusedVariables false
theorem us_num {w : World} {B n : Nat} {A : Option Addr} {l : List Nat} (h : Rd w B 1 A n (us l)) {k : Nat} (hk : k < n) : ∃ ad x, A = some ad ∧ l[k]? = some x ∧ w.cell? (ad.add k) = some (.int .u64 ((x : Nat) : Int)) := h.num hk
set_option maxRecDepth 100000 in
set_option maxHeartbeats 1600000 in
theorem dnums5_any (B : Nat) (A : Option Addr) (n c : Nat) (l : List Nat) (w : World) (hl : Rd w B 1 A n (us l)) (h64 : ∀ x ∈ l, (x : Int) ≤ 18446744073709551615) (hn : n ≤ 1000) (hB : B ≤ w.heap.size) :
    Calls Tryz.prog 39 #[.slice A n c] w (Made 5 (encs l) w) := by
  have hll : l.length = n := by have := hl.len; rw [us_length] at this; omega
  obtain ⟨i0, hi, hz0, hz1, hz2⟩ := info_parts Tryz.info5
  have HLN : Hid (∀ k, (encs (l.take k)).length ≤ 10 * k) := fun k => by
    have := encs_le (l.take k) (fun y hy => h64 y (List.mem_of_mem_take hy))
    rw [List.length_take] at this
    omega
  have HRD : Hid (∀ W, Below w.heap.size w W → Rd W B 1 A n (us l)) := fun W hW => hl.below (hW.mono hB)
  have H64 := Lib_hid h64
  have PF : Hid (∀ W A' m c', m = (encs l).length → W.ownsRow w.heap.size 5 1 (.slice A' m c') m (bs (encs l)) → Below w.heap.size w W → Made 5 (encs l) w (.returned (.slice A' m c')) W) := fun W A' m c' e h1 h2 => by subst e; exact ⟨A', c', rfl, h1, h2⟩
  have HTK : Hid (encs (l.take n) = encs l) := Lib_hid (by rw [← hll, List.take_length])
  clear hl h64 hll
  go_enter Tryz.func39, Tryz.ntmps39
  go_wp2
  go_loopw [3, 4] (fun v z wr => ∃ (i m c' : Nat) (A' : Option Addr), v = .slice A' m c' ∧ z = .int .i64 i ∧ i ≤ n ∧ Hid (m = (encs (l.take i)).length) ∧ wr.ownsRow w.heap.size 5 1 (.slice A' m c') m (bs (encs (l.take i))) ∧ Below w.heap.size w wr) (fun _ z _ => n - (intOf z).toNat)
  case atStart => exact ⟨0, 0, 0, none, rfl, rfl, Nat.zero_le _, Lib_hid (by simp [encs]), World.ownsRow_nil _ _ _ _, Below.refl _ _⟩
  case round =>
    obtain ⟨i, m, c', A', rfl, rfl, hi1, hm, hown, hbw⟩ := hrel
    by_cases hlt : i < n
    · obtain ⟨ad, x, rfl, hx, hcell⟩ := us_num (HRD.out wr hbw) hlt
      have hx64 := H64.out x (List.mem_of_getElem? hx)
      have hten := enc_ten (v := x) (by omega)
      have hmm : m ≤ 10000 := by have := HLN.out i; have := hm.out; omega
      have HS : Hid (encs (l.take (i + 1)) = encs (l.take i) ++ enc x) := Lib_hid (by rw [take_one hx, encs_snoc])
      have RP := rput_any 10 x wr hten (by omega) hx64
      have hm1 : m + (enc x).length ≤ maxLen := by unfold maxLen; omega
      have hm2 : (m + (enc x).length) * 1 ≤ 140737488355328 := by omega
      go_wp2_with fail
      refine RP.mono ?_
      rintro e w7 ⟨A7, c7, rfl, ho7, hb7⟩
      have hown7 := own_below hown hb7 (own_lt hown)
      have hb8 := hbw.trans (hb7.mono hbw.size)
      have hr7 := Rd.own ho7
      clear RP hown ho7 hb7 hcell
      go_wp2_with (at_builtin; (refine wpList_app rfl _ _ 46 rfl w.heap.size 5 i0 (.int .u8 0) 1 1 Tryz.underlying46 hi hz0 hz1 hz2 rfl (by decide) (.slice A' m c') m _ rfl hown7 _ A7 _ c7 _ rfl hr7 (bs_one _) hm1 hm2 hb8.size ?_); intro v' w8 hown' hst; rw [← bs_append] at hown'; obtain ⟨A2, c2, rfl, _⟩ := own_form hown')
      go_roundw
      case rel => exact ⟨i + 1, _, c2, A2, rfl, by go_num, by omega, Lib_hid (by rw [HS.out, List.length_append, ← hm.out]), by rw [HS.out]; exact hown', hb8.trans (hst.below hb8.size fun g hg => own_ge hown7 g hg)⟩
      case measure => simp [intOf]; omega
    · obtain rfl : i = n := by omega
      have HM := Lib_hid (hm.out.trans (by rw [HTK.out]))
      rw [HTK.out] at hown
      go_wp2
      go_ret
      exact PF.out _ _ _ _ HM.out hown hbw
end Go.Proofs.YtiiiklenhmhccaaGreatDoor

namespace Go.Proofs.YtiiiklenhmhccaaGreatDoor
open Go Go.RowKit
set_option linter.unusedVariables false
set_option maxHeartbeats 800000 in
theorem putEntries_any (r : Rv) (g n c : Nat) (A : Option Addr) (ys : List Nat) (w : World) (h : Wr 93 5 w g A n c ys) (hn : n ≤ 20000) (lo hi : Nat) (hL : RLies w lo hi r) (hlen : r.es.length ≤ 1000) (hhi : hi ≤ w.heap.size) (hg : hi ≤ g) :
    Calls Tryz.prog 145 #[r.val, .pointer (some ⟨g, 0, none⟩)] w (VPost g (.slice A n c) (ys ++ r.abs.standP 5) w) := by
  obtain ⟨k, t, x, wn, nn, v, p, Ae, ce, es⟩ := r
  have hb1 := below_new w (.cells #[.int .i64 k, .int .u64 (t : Int), .int .u64 (x : Int), .int .u64 (wn : Int), .int .u64 (nn : Int), .int .u64 (v : Int), .int .i64 p.kind, .int .u64 (p.a : Int), .int .u64 (p.b : Int), .slice p.addr p.parts.length p.cap, .slice Ae es.length ce] 30)
  have E := pute_any g n c hi ce A Ae ys es _ (h.kept hb1) hn (hL.es.below (hb1.mono hhi)) hL.ok hlen hL.cap (Nat.le_trans hhi hb1.size) hg
  have HS := WStp.of g (Stp.alloc w (.cells #[.int .i64 k, .int .u64 (t : Int), .int .u64 (x : Int), .int .u64 (wn : Int), .int .u64 (nn : Int), .int .u64 (v : Int), .int .i64 p.kind, .int .u64 (p.a : Int), .int .u64 (p.b : Int), .slice p.addr p.parts.length p.cap, .slice Ae es.length ce] 30) (.slice A n c))
  show Calls Tryz.prog 145 #[.agg #[.int .i64 k, .int .u64 (t : Int), .int .u64 (x : Int), .int .u64 (wn : Int), .int .u64 (nn : Int), .int .u64 (v : Int), .int .i64 p.kind, .int .u64 (p.a : Int), .int .u64 (p.b : Int), .slice p.addr p.parts.length p.cap, .slice Ae es.length ce], .pointer (some ⟨g, 0, none⟩)] w (VPost g (.slice A n c) (ys ++ (enc es.length ++ es.flatMap En.stand)) w)
  generalize enc es.length ++ es.flatMap En.stand = zs at *
  go_enter Tryz.func145, Tryz.ntmps145
  go_wp2_with fail
  refine E.mono ?_
  rintro e w1 ⟨A', n', c', rfl, hw, hs⟩
  replace hs := HS.trans hs
  clear HS E
  go_wp2
  go_end0
  exact ⟨A', n', c', rfl, hw, hs⟩
theorem put6_any (i : Nat) (hi6 : i < 6) (r : Rv) (g n c : Nat) (A : Option Addr) (ys : List Nat) (w : World) (h : Wr 93 5 w g A n c ys) (hn : n ≤ 20000) (lo hi : Nat) (hL : RLies w lo hi r) (hlen : r.es.length ≤ 1000) (hhi : hi ≤ w.heap.size) (hg : hi ≤ g) :
    Calls Tryz.prog (mputF i) #[r.val, .pointer (some ⟨g, 0, none⟩)] w (VPost g (.slice A n c) (ys ++ r.abs.standP i) w) := by
  have : i = 0 ∨ i = 1 ∨ i = 2 ∨ i = 3 ∨ i = 4 ∨ i = 5 := by omega
  rcases this with rfl | rfl | rfl | rfl | rfl | rfl
  · exact putT_any r g n c A ys w h (by omega) hL.t
  · exact putX_any r g n c A ys w h (by omega) hL.x
  · exact putV_any r g n c A ys w h (by omega) hL.wn hL.n
  · exact putValue_any r g n c A ys w h (by omega) hL.v
  · exact putP_any r g n c A ys w h (by omega) lo hi hL hhi
  · exact putEntries_any r g n c A ys w h hn lo hi hL hlen hhi hg
set_option maxRecDepth 100000 in
theorem call_put {i : Nat} (hi6 : i < 6) : ∀ (args : Array Value) (wx : World), (callFunc (mputF i) args).run Tryz.prog wx = .ok (.enter (mputF i) args) wx := by
  have : i = 0 ∨ i = 1 ∨ i = 2 ∨ i = 3 ∨ i = 4 ∨ i = 5 := by omega
  rcases this with rfl | rfl | rfl | rfl | rfl | rfl <;> exact fun args wx => by kernel_rfl
def Rc.standN (r : Rc) (l : List Nat) : List Nat := l.flatMap r.standP
def Rc.stand (r : Rc) : List Nat := r.standN (partsN r.kind 6)
theorem standN_snoc {r : Rc} {l : List Nat} {i j : Nat} (h : l[i]? = some j) : r.standN (l.take (i + 1)) = r.standN (l.take i) ++ r.standP j := by
  unfold Rc.standN; rw [take_one h]; simp
theorem partsN_lt {k : Int} {i j : Nat} (h : j ∈ partsN k i) : j < i := by
  simp only [partsN, List.mem_filter, List.mem_range] at h
  exact h.1
theorem standP_len {w : World} {lo hi : Nat} {r : Rv} (h : RLies w lo hi r) (hlen : r.es.length ≤ 100) (i : Nat) : (r.abs.standP i).length ≤ 3300 := by
  have h1 := enc_ten (v := r.t) (by have := h.t; omega)
  have h2 := enc_ten (v := r.x) (by have := h.x; omega)
  have h3 := encs_le [r.w, r.n] (by intro y hy; simp only [List.mem_cons, List.not_mem_nil, or_false] at hy; rcases hy with rfl | rfl; exact h.wn; exact h.n)
  have h4 := enc_ten (v := r.v) (by have := h.v; omega)
  have h5 := put_len h.p
  have h6 := enc_ten (v := r.p.abs.put.length) (by omega)
  have h7 := enc_ten (v := r.es.length) (by omega)
  have h8 := esS_len h.ok r.es.length
  have h9 : esS r.es r.es.length = r.es.flatMap En.stand := by unfold esS; rw [List.take_length]
  rw [h9] at h8
  simp only [List.length_cons, List.length_nil] at h3
  unfold Rc.standP Rv.abs
  simp only
  split; omega
  split; omega
  split; omega
  split; omega
  split
  · rw [List.length_append]; omega
  · rw [List.length_append]; omega
end Go.Proofs.YtiiiklenhmhccaaGreatDoor
