/-
  Layer 4: made, a predicate by a number: some tree of few nodes, of the call's own.
-/
import Derived.Test.YtiijdacnfhiagaaGreatDoorZkTtd
import Derived.Test.YtiijdacnfhiagaaGreatDoorTex
import Derived.Deep.RegionHeld3

namespace Go.Proofs.YtiijdacnfhiagaaGreatDoor
open Go Go.RowKit
set_option linter.unusedVariables false

/-- How many nodes it may have, by its levels. -/
def madeC : Nat → Nat
  | 0 => 1
  | d + 1 => 1 + 3 * madeC d

/-- Some tree of the call's own comes back, of at most so many nodes. -/
def MadeEnd (C : Nat) (w : World) (e : Ending) (w' : World) : Prop :=
  ∃ (k : Int) (a b : Nat) (A : Option Addr) (c : Nat) (us : List V), e = .returned (.agg #[.int .i64 k, .int .u64 (a : Int), .int .u64 (b : Int), .slice A us.length c]) ∧ (V.node k a b A c us).abs.count ≤ C ∧
    Lies w' w.heap.size w'.heap.size (.node k a b A c us) ∧ Shp 25 w' w.heap.size (.node k a b A c us) ∧ Below w.heap.size w w'

theorem made_fin {C : Nat} {w W : World} {k : Int} {a b n c B2 : Nat} {A : Option Addr} {us : List V} (hT : TRow 25 B2 (.slice A n c) us W) (hB : w.heap.size < B2) (hbw : Below w.heap.size w W)
    (hk : -9223372036854775808 ≤ k ∧ k ≤ 9223372036854775807) (ha : a < 18446744073709551616) (hb : b < 18446744073709551616) (hc : 1 + T.countL (V.absL us) ≤ C) :
    MadeEnd C w (.returned (.agg #[.int .i64 k, .int .u64 (a : Int), .int .u64 (b : Int), .slice A n c])) (put4 W w.heap.size (.int .i64 k) (.int .u64 (a : Int)) (.int .u64 (b : Int)) (.slice A n c)) := by
  have hT2 : TRow 25 B2 (.slice A n c) us (put4 W w.heap.size (.int .i64 k) (.int .u64 (a : Int)) (.int .u64 (b : Int)) (.slice A n c)) :=
    hT.keep (by rw [put4_size]; exact Nat.le_refl _) fun g h1 _ => put4_else _ (by omega) _ _ _ _
  obtain ⟨rfl, hL, hS⟩ := hT2.tree hk ha hb
  refine ⟨k, a, b, A, c, us, rfl, by rw [V.count_node]; exact hc, hL.more (by omega) (Nat.le_refl _), hS.more (by omega), put4_below hbw (Nat.le_refl _) _ _ _ _⟩

theorem made_ret {Q : Ending → World → Prop} {W : World} {h0 : Nat} {x0 x1 x2 x3 : Value} (HR2 : W.heap[h0]? = some (.cells #[x0, x1, x2, x3] 25 (0, 0))) (HF2 : Q (.returned (.agg #[x0, x1, x2, x3])) W)
    (tmps : Array Value) (h4 : tmps.getD 4 undef = .pointer (some ⟨h0, 0, none⟩)) : bodyPost Tryz.prog Tryz.f39 Q .ret { tmps := tmps, defers := [] } W := by
  rw [Array.getD_eq_getD_getElem?] at h4
  have d0 := cell_of_row W _ 0 _ _ _ HR2
  have d1 := cell_of_row W _ 1 _ _ _ HR2
  have d2 := cell_of_row W _ 2 _ _ _ HR2
  have d3 := cell_of_row W _ 3 _ _ _ HR2
  simp at d0 d1 d2 d3
  exact bodyPost_ret (v := .agg #[x0, x1, x2, x3]) (by simp [results, Tryz.results39, go_sem, h4, d0, d1, d2, d3]) rfl HF2

theorem two_boxes (w : World) (E : TypeId) (x0 x1 x2 x3 y0 y1 y2 y3 : Value) : ((w.alloc (.cells #[x0, x1, x2, x3] E)).alloc (.cells #[y0, y1, y2, y3] E)).heap[w.heap.size]? = some (.cells #[x0, x1, x2, x3] E (0, 0)) ∧
    ((w.alloc (.cells #[x0, x1, x2, x3] E)).alloc (.cells #[y0, y1, y2, y3] E)).heap[w.heap.size + 1]? = some (.cells #[y0, y1, y2, y3] E (0, 0)) ∧ Below w.heap.size w ((w.alloc (.cells #[x0, x1, x2, x3] E)).alloc (.cells #[y0, y1, y2, y3] E)) ∧
    ((w.alloc (.cells #[x0, x1, x2, x3] E)).alloc (.cells #[y0, y1, y2, y3] E)).heap.size = w.heap.size + 2 := by
  have q1 := heap_alloc_new w (.cells #[x0, x1, x2, x3] E)
  have b1 := below_new w (.cells #[x0, x1, x2, x3] E)
  have s1 : (w.alloc (.cells #[x0, x1, x2, x3] E)).heap.size = w.heap.size + 1 := by simp
  have q2 := heap_alloc_new (w.alloc (.cells #[x0, x1, x2, x3] E)) (.cells #[y0, y1, y2, y3] E)
  have b2 := below_new (w.alloc (.cells #[x0, x1, x2, x3] E)) (.cells #[y0, y1, y2, y3] E)
  rw [s1] at q2 b2
  exact ⟨(b2.block _ (by omega)).trans q1, q2, b1.trans (b2.mono (by omega)), by simp⟩

theorem set_a {w W : World} {E : TypeId} {x0 x1 x2 x3 y0 y1 y2 y3 : Value} (v : Value) (qW : W.heap[w.heap.size]? = some (.cells #[x0, x1, x2, x3] E (0, 0))) (pW : W.heap[w.heap.size + 1]? = some (.cells #[y0, y1, y2, y3] E (0, 0))) (bW : Below w.heap.size w W) :
    (W.setCell ⟨w.heap.size + 1, 1, none⟩ v).heap[w.heap.size]? = some (.cells #[x0, x1, x2, x3] E (0, 0)) ∧ (W.setCell ⟨w.heap.size + 1, 1, none⟩ v).heap[w.heap.size + 1]? = some (.cells #[y0, v, y2, y3] E (0, 0)) ∧ Below w.heap.size w (W.setCell ⟨w.heap.size + 1, 1, none⟩ v) ∧ (W.setCell ⟨w.heap.size + 1, 1, none⟩ v).heap.size = W.heap.size :=
  ⟨(Below.heap_setCell W ⟨w.heap.size + 1, 1, none⟩ v w.heap.size (by show w.heap.size ≠ w.heap.size + 1; omega)).trans qW, Joins.block_setCell (i := 1) pW v, bW.setCell (p := ⟨w.heap.size + 1, 1, none⟩) (by show w.heap.size ≤ w.heap.size + 1; omega) v, by simp [World.setCell]⟩
theorem set_b {w W : World} {E : TypeId} {x0 x1 x2 x3 y0 y1 y2 y3 : Value} (v : Value) (qW : W.heap[w.heap.size]? = some (.cells #[x0, x1, x2, x3] E (0, 0))) (pW : W.heap[w.heap.size + 1]? = some (.cells #[y0, y1, y2, y3] E (0, 0))) (bW : Below w.heap.size w W) :
    (W.setCell ⟨w.heap.size + 1, 2, none⟩ v).heap[w.heap.size]? = some (.cells #[x0, x1, x2, x3] E (0, 0)) ∧ (W.setCell ⟨w.heap.size + 1, 2, none⟩ v).heap[w.heap.size + 1]? = some (.cells #[y0, y1, v, y3] E (0, 0)) ∧ Below w.heap.size w (W.setCell ⟨w.heap.size + 1, 2, none⟩ v) ∧ (W.setCell ⟨w.heap.size + 1, 2, none⟩ v).heap.size = W.heap.size :=
  ⟨(Below.heap_setCell W ⟨w.heap.size + 1, 2, none⟩ v w.heap.size (by show w.heap.size ≠ w.heap.size + 1; omega)).trans qW, Joins.block_setCell (i := 2) pW v, bW.setCell (p := ⟨w.heap.size + 1, 2, none⟩) (by show w.heap.size ≤ w.heap.size + 1; omega) v, by simp [World.setCell]⟩

theorem one_tree (u : V) (w : World) (lo : Nat) (hL : Lies w lo w.heap.size u) (hS : Shp 25 w lo u) (hl : lo ≤ w.heap.size) :
    TRow 25 lo (.slice (some ⟨w.heap.size, 0, none⟩) 1 1) [u] (w.alloc (.cells #[.int .i64 u.kind, .int .u64 (u.a : Int), .int .u64 (u.b : Int), .slice u.addr u.parts.length u.cap] 25)) := by
  have hb0 := below_new w (.cells #[.int .i64 u.kind, .int .u64 (u.a : Int), .int .u64 (u.b : Int), .slice u.addr u.parts.length u.cap] 25)
  refine ⟨World.ownsRow_lit w _ 1 hl (by decide) rfl, fun x hx => ?_⟩
  obtain rfl : x = u := by simpa using hx
  refine ⟨lo, w.heap.size, Nat.le_refl _, hb0.size, hL.under hb0, hS.under hb0, fun g hg => .inr ?_⟩
  have : w.heap.size = g := by injection hg
  omega

theorem set_c {w W : World} {E : TypeId} {x0 x1 x2 x3 y0 y1 y2 y3 : Value} (v : Value) (qW : W.heap[w.heap.size]? = some (.cells #[x0, x1, x2, x3] E (0, 0))) (pW : W.heap[w.heap.size + 1]? = some (.cells #[y0, y1, y2, y3] E (0, 0))) (bW : Below w.heap.size w W) :
    (W.setCell ⟨w.heap.size + 1, 3, none⟩ v).heap[w.heap.size]? = some (.cells #[x0, x1, x2, x3] E (0, 0)) ∧ (W.setCell ⟨w.heap.size + 1, 3, none⟩ v).heap[w.heap.size + 1]? = some (.cells #[y0, y1, y2, v] E (0, 0)) ∧ Below w.heap.size w (W.setCell ⟨w.heap.size + 1, 3, none⟩ v) ∧ (W.setCell ⟨w.heap.size + 1, 3, none⟩ v).heap.size = W.heap.size :=
  ⟨(Below.heap_setCell W ⟨w.heap.size + 1, 3, none⟩ v w.heap.size (by show w.heap.size ≠ w.heap.size + 1; omega)).trans qW, Joins.block_setCell (i := 3) pW v, bW.setCell (p := ⟨w.heap.size + 1, 3, none⟩) (by show w.heap.size ≤ w.heap.size + 1; omega) v, by simp [World.setCell]⟩

set_option maxRecDepth 100000 in
set_option maxHeartbeats 1600000 in
theorem made_any (d : Nat) : d ≤ 3 → ∀ (n : Nat) (w : World), n < 1000000 → Calls Tryz.prog 39 #[.int .i64 (n : Int), .int .i64 (d : Int)] w (MadeEnd (madeC d) w) := by
  induction d using Nat.strongRecOn with
  | _ d IHd =>
  intro hd n w hn
  have IH : Hid (∀ d', d' < d → ∀ (n : Nat) (w : World), n < 1000000 → Calls Tryz.prog 39 #[.int .i64 (n : Int), .int .i64 (d' : Int)] w (MadeEnd (madeC d') w)) := fun d' h => IHd d' h (by omega)
  clear IHd
  have hC1 : 1 ≤ madeC d := by cases d with
    | zero => exact Nat.le_refl _
    | succ d => show 1 ≤ 1 + 3 * madeC d; omega
  have HC := Lib_hid hC1
  clear hC1
  go_enter Tryz.func39, Tryz.ntmps39
  go_upto_region 2 with (fail)
  have hcase : (n : Int) % 7 = 0 ∨ (n : Int) % 7 = 1 ∨ (n : Int) % 7 = 2 ∨ (n : Int) % 7 = 3 ∨ (n : Int) % 7 = 4 ∨ (n : Int) % 7 = 5 ∨ (n : Int) % 7 = 6 := by omega
  rcases hcase with h | h | h | h | h | h | h
  · rw [h, show (1 : Int) + 0 = 1 by rfl]
    clear h
    obtain ⟨qW, pW, bW, s1⟩ := two_boxes w 25 (.int .i64 0) (.int .u64 0) (.int .u64 0) (.slice none 0 0) (.int .i64 1) (.int .u64 0) (.int .u64 0) (.slice none 0 0)
    generalize (w.alloc _).alloc _ = W at *
    have c0 := cell_of_row W _ 0 _ _ _ pW
    simp at c0
    go_upto_region 18 with (fail)
    have HX : Hid (MadeEnd (madeC d) w (.returned (.agg #[.int .i64 1, .int .u64 ((0 : Nat) : Int), .int .u64 ((0 : Nat) : Int), .slice none 0 0])) (put4 W w.heap.size (.int .i64 1) (.int .u64 ((0 : Nat) : Int)) (.int .u64 ((0 : Nat) : Int)) (.slice none 0 0)) ∧ (put4 W w.heap.size (.int .i64 1) (.int .u64 ((0 : Nat) : Int)) (.int .u64 ((0 : Nat) : Int)) (.slice none 0 0)).heap[w.heap.size]? = some (.cells #[.int .i64 1, .int .u64 ((0 : Nat) : Int), .int .u64 ((0 : Nat) : Int), .slice none 0 0] 25 (0, 0))) := ⟨made_fin (TRow.nil _ (w.heap.size + 1) _) (by omega) bW (by omega) (by omega) (by omega) (by rw [V.absL, T.countL]; exact HC.out), put4_row qW _ _ _ _⟩
    have e0 := cell_of_row W _ 0 _ _ _ pW
    have e1 := cell_of_row W _ 1 _ _ _ pW
    have e2 := cell_of_row W _ 2 _ _ _ pW
    have e3 := cell_of_row W _ 3 _ _ _ pW
    have f0 := cell_of_row W _ 0 _ _ _ qW
    have f1 := cell_of_row W _ 1 _ _ _ qW
    have f2 := cell_of_row W _ 2 _ _ _ qW
    have f3 := cell_of_row W _ 3 _ _ _ qW
    have y0 := frozen_of_row W w.heap.size 0 _ _ qW
    have y1 := frozen_of_row W w.heap.size 1 _ _ qW
    have y2 := frozen_of_row W w.heap.size 2 _ _ qW
    have y3 := frozen_of_row W w.heap.size 3 _ _ qW
    simp at e0 e1 e2 e3 f0 f1 f2 f3
    clear pW qW bW c0
    go_wp2_with fail
    show bodyPost _ _ _ _ _ (put4 W w.heap.size (.int .i64 1) (.int .u64 ((0 : Nat) : Int)) (.int .u64 ((0 : Nat) : Int)) (.slice none 0 0))
    have HX2 := HX.out
    clear HX e0 e1 e2 e3 f0 f1 f2 f3 y0 y1 y2 y3
    generalize put4 W w.heap.size (.int .i64 1) (.int .u64 ((0 : Nat) : Int)) (.int .u64 ((0 : Nat) : Int)) (.slice none 0 0) = W2 at *
    exact made_ret HX2.2 HX2.1 _ rfl
  · rw [h, show (1 : Int) + 1 = 2 by rfl]
    clear h
    obtain ⟨qW, pW, bW, s1⟩ := two_boxes w 25 (.int .i64 0) (.int .u64 0) (.int .u64 0) (.slice none 0 0) (.int .i64 2) (.int .u64 0) (.int .u64 0) (.slice none 0 0)
    generalize (w.alloc _).alloc _ = W at *
    have c0 := cell_of_row W _ 0 _ _ _ pW
    have z1 := frozen_of_row W (w.heap.size + 1) 1 _ _ pW
    have c1 := cell_of_row W _ 1 _ _ _ pW
    simp at c0 c1
    go_upto_region 18 with (fail)
    obtain ⟨a, ha, ha9⟩ : ∃ a : Nat, (n : Int) / 7 % 9 = (a : Int) ∧ a < 9 := ⟨n / 7 % 9, by omega, by omega⟩
    rw [ha]
    obtain ⟨q2, p2, b2, s2⟩ := set_a (.int .u64 (a : Int)) qW pW bW
    clear ha qW pW bW c0 z1 c1
    have qW := q2
    have pW := p2
    have bW := b2
    clear q2 p2 b2
    generalize W.setCell _ _ = W2 at *
    rename World => W
    have HX : Hid (MadeEnd (madeC d) w (.returned (.agg #[.int .i64 2, .int .u64 (a : Int), .int .u64 ((0 : Nat) : Int), .slice none 0 0])) (put4 W w.heap.size (.int .i64 2) (.int .u64 (a : Int)) (.int .u64 ((0 : Nat) : Int)) (.slice none 0 0)) ∧ (put4 W w.heap.size (.int .i64 2) (.int .u64 (a : Int)) (.int .u64 ((0 : Nat) : Int)) (.slice none 0 0)).heap[w.heap.size]? = some (.cells #[.int .i64 2, .int .u64 (a : Int), .int .u64 ((0 : Nat) : Int), .slice none 0 0] 25 (0, 0))) := ⟨made_fin (TRow.nil _ (w.heap.size + 1) _) (by omega) bW (by omega) (by omega) (by omega) (by rw [V.absL, T.countL]; exact HC.out), put4_row qW _ _ _ _⟩
    have e0 := cell_of_row W _ 0 _ _ _ pW
    have e1 := cell_of_row W _ 1 _ _ _ pW
    have e2 := cell_of_row W _ 2 _ _ _ pW
    have e3 := cell_of_row W _ 3 _ _ _ pW
    have f0 := cell_of_row W _ 0 _ _ _ qW
    have f1 := cell_of_row W _ 1 _ _ _ qW
    have f2 := cell_of_row W _ 2 _ _ _ qW
    have f3 := cell_of_row W _ 3 _ _ _ qW
    have y0 := frozen_of_row W w.heap.size 0 _ _ qW
    have y1 := frozen_of_row W w.heap.size 1 _ _ qW
    have y2 := frozen_of_row W w.heap.size 2 _ _ qW
    have y3 := frozen_of_row W w.heap.size 3 _ _ qW
    simp at e0 e1 e2 e3 f0 f1 f2 f3
    clear pW qW bW s1 s2
    go_wp2_with fail
    show bodyPost _ _ _ _ _ (put4 W w.heap.size (.int .i64 2) (.int .u64 (a : Int)) (.int .u64 ((0 : Nat) : Int)) (.slice none 0 0))
    have HX2 := HX.out
    clear HX e0 e1 e2 e3 f0 f1 f2 f3 y0 y1 y2 y3
    generalize put4 W w.heap.size (.int .i64 2) (.int .u64 (a : Int)) (.int .u64 ((0 : Nat) : Int)) (.slice none 0 0) = W2 at *
    exact made_ret HX2.2 HX2.1 _ rfl
  · rw [h, show (1 : Int) + 2 = 3 by rfl]
    clear h
    obtain ⟨qW, pW, bW, s1⟩ := two_boxes w 25 (.int .i64 0) (.int .u64 0) (.int .u64 0) (.slice none 0 0) (.int .i64 3) (.int .u64 0) (.int .u64 0) (.slice none 0 0)
    generalize (w.alloc _).alloc _ = W at *
    have c0 := cell_of_row W _ 0 _ _ _ pW
    have z1 := frozen_of_row W (w.heap.size + 1) 1 _ _ pW
    have c1 := cell_of_row W _ 1 _ _ _ pW
    simp at c0 c1
    go_upto_region 18 with (fail)
    obtain ⟨a, ha, ha9⟩ : ∃ a : Nat, (n : Int) / 7 % 9 = (a : Int) ∧ a < 9 := ⟨n / 7 % 9, by omega, by omega⟩
    rw [ha]
    obtain ⟨q2, p2, b2, s2⟩ := set_a (.int .u64 (a : Int)) qW pW bW
    clear ha qW pW bW c0 z1 c1
    have qW := q2
    have pW := p2
    have bW := b2
    clear q2 p2 b2
    generalize W.setCell _ _ = W2 at *
    rename World => W
    have HX : Hid (MadeEnd (madeC d) w (.returned (.agg #[.int .i64 3, .int .u64 (a : Int), .int .u64 ((0 : Nat) : Int), .slice none 0 0])) (put4 W w.heap.size (.int .i64 3) (.int .u64 (a : Int)) (.int .u64 ((0 : Nat) : Int)) (.slice none 0 0)) ∧ (put4 W w.heap.size (.int .i64 3) (.int .u64 (a : Int)) (.int .u64 ((0 : Nat) : Int)) (.slice none 0 0)).heap[w.heap.size]? = some (.cells #[.int .i64 3, .int .u64 (a : Int), .int .u64 ((0 : Nat) : Int), .slice none 0 0] 25 (0, 0))) := ⟨made_fin (TRow.nil _ (w.heap.size + 1) _) (by omega) bW (by omega) (by omega) (by omega) (by rw [V.absL, T.countL]; exact HC.out), put4_row qW _ _ _ _⟩
    have e0 := cell_of_row W _ 0 _ _ _ pW
    have e1 := cell_of_row W _ 1 _ _ _ pW
    have e2 := cell_of_row W _ 2 _ _ _ pW
    have e3 := cell_of_row W _ 3 _ _ _ pW
    have f0 := cell_of_row W _ 0 _ _ _ qW
    have f1 := cell_of_row W _ 1 _ _ _ qW
    have f2 := cell_of_row W _ 2 _ _ _ qW
    have f3 := cell_of_row W _ 3 _ _ _ qW
    have y0 := frozen_of_row W w.heap.size 0 _ _ qW
    have y1 := frozen_of_row W w.heap.size 1 _ _ qW
    have y2 := frozen_of_row W w.heap.size 2 _ _ qW
    have y3 := frozen_of_row W w.heap.size 3 _ _ qW
    simp at e0 e1 e2 e3 f0 f1 f2 f3
    clear pW qW bW s1 s2
    go_wp2_with fail
    show bodyPost _ _ _ _ _ (put4 W w.heap.size (.int .i64 3) (.int .u64 (a : Int)) (.int .u64 ((0 : Nat) : Int)) (.slice none 0 0))
    have HX2 := HX.out
    clear HX e0 e1 e2 e3 f0 f1 f2 f3 y0 y1 y2 y3
    generalize put4 W w.heap.size (.int .i64 3) (.int .u64 (a : Int)) (.int .u64 ((0 : Nat) : Int)) (.slice none 0 0) = W2 at *
    exact made_ret HX2.2 HX2.1 _ rfl
  · rw [h, show (1 : Int) + 3 = 4 by rfl]
    clear h
    obtain ⟨qW, pW, bW, s1⟩ := two_boxes w 25 (.int .i64 0) (.int .u64 0) (.int .u64 0) (.slice none 0 0) (.int .i64 4) (.int .u64 0) (.int .u64 0) (.slice none 0 0)
    generalize (w.alloc _).alloc _ = W at *
    have c0 := cell_of_row W _ 0 _ _ _ pW
    have z1 := frozen_of_row W (w.heap.size + 1) 1 _ _ pW
    have c1 := cell_of_row W _ 1 _ _ _ pW
    simp at c0 c1
    go_upto_region 8 with (fail)
    obtain ⟨a, ha, ha9⟩ : ∃ a : Nat, 1 + (n : Int) / 7 % 5 = (a : Int) ∧ (0 < a ∧ a < 6) := ⟨1 + n / 7 % 5, by omega, by omega⟩
    rw [ha]
    obtain ⟨q2, p2, b2, s2⟩ := set_a (.int .u64 (a : Int)) qW pW bW
    clear qW pW bW c0 z1 c1
    have qW := q2
    have pW := p2
    have bW := b2
    clear q2 p2 b2
    generalize W.setCell _ _ = W2 at *
    rename World => W
    have z1 := frozen_of_row W (w.heap.size + 1) 2 _ _ pW
    have c1 := cell_of_row W _ 2 _ _ _ pW
    simp at c1
    have hap : (a : Int) ≠ 0 := by omega
    go_upto_region 18 with (fail)
    obtain ⟨b, hb, hb9⟩ : ∃ b : Nat, IntKind.u64.wrap ((n : Int) / 35 % (1 + (n : Int) / 7 % 5)) = (b : Int) ∧ b < 6 := by
      have h1 := Int.emod_nonneg ((n : Int) / 35) (show (1 + (n : Int) / 7 % 5) ≠ 0 by omega)
      have h2 := Int.emod_lt_of_pos ((n : Int) / 35) (show (0 : Int) < (1 + (n : Int) / 7 % 5) by omega)
      rw [IntWalk.u64_in _ (by omega)]
      exact ⟨((n : Int) / 35 % (1 + (n : Int) / 7 % 5)).toNat, by omega, by omega⟩
    rw [ha] at hb
    rw [hb]
    obtain ⟨q2, p2, b2, s2⟩ := set_b (.int .u64 (b : Int)) qW pW bW
    clear ha hb hap qW pW bW z1 c1
    have qW := q2
    have pW := p2
    have bW := b2
    clear q2 p2 b2
    generalize W.setCell _ _ = W2 at *
    rename World => W
    have HX : Hid (MadeEnd (madeC d) w (.returned (.agg #[.int .i64 4, .int .u64 (a : Int), .int .u64 (b : Int), .slice none 0 0])) (put4 W w.heap.size (.int .i64 4) (.int .u64 (a : Int)) (.int .u64 (b : Int)) (.slice none 0 0)) ∧ (put4 W w.heap.size (.int .i64 4) (.int .u64 (a : Int)) (.int .u64 (b : Int)) (.slice none 0 0)).heap[w.heap.size]? = some (.cells #[.int .i64 4, .int .u64 (a : Int), .int .u64 (b : Int), .slice none 0 0] 25 (0, 0))) := ⟨made_fin (TRow.nil _ (w.heap.size + 1) _) (by omega) bW (by omega) (by omega) (by omega) (by rw [V.absL, T.countL]; exact HC.out), put4_row qW _ _ _ _⟩
    have e0 := cell_of_row W _ 0 _ _ _ pW
    have e1 := cell_of_row W _ 1 _ _ _ pW
    have e2 := cell_of_row W _ 2 _ _ _ pW
    have e3 := cell_of_row W _ 3 _ _ _ pW
    have f0 := cell_of_row W _ 0 _ _ _ qW
    have f1 := cell_of_row W _ 1 _ _ _ qW
    have f2 := cell_of_row W _ 2 _ _ _ qW
    have f3 := cell_of_row W _ 3 _ _ _ qW
    have y0 := frozen_of_row W w.heap.size 0 _ _ qW
    have y1 := frozen_of_row W w.heap.size 1 _ _ qW
    have y2 := frozen_of_row W w.heap.size 2 _ _ qW
    have y3 := frozen_of_row W w.heap.size 3 _ _ qW
    simp at e0 e1 e2 e3 f0 f1 f2 f3
    clear pW qW bW 
    go_wp2_with fail
    show bodyPost _ _ _ _ _ (put4 W w.heap.size (.int .i64 4) (.int .u64 (a : Int)) (.int .u64 (b : Int)) (.slice none 0 0))
    have HX2 := HX.out
    clear HX e0 e1 e2 e3 f0 f1 f2 f3 y0 y1 y2 y3
    generalize put4 W w.heap.size (.int .i64 4) (.int .u64 (a : Int)) (.int .u64 (b : Int)) (.slice none 0 0) = W2 at *
    exact made_ret HX2.2 HX2.1 _ rfl
  · rw [h, show (1 : Int) + 4 = 5 by rfl]
    clear h
    obtain ⟨qW, pW, bW, s1⟩ := two_boxes w 25 (.int .i64 0) (.int .u64 0) (.int .u64 0) (.slice none 0 0) (.int .i64 5) (.int .u64 0) (.int .u64 0) (.slice none 0 0)
    generalize (w.alloc _).alloc _ = W at *
    have c0 := cell_of_row W _ 0 _ _ _ pW
    simp at c0
    cases d with
    | zero =>
      go_upto_region 18 with (fail)
      have HX : Hid (MadeEnd (madeC 0) w (.returned (.agg #[.int .i64 5, .int .u64 ((0 : Nat) : Int), .int .u64 ((0 : Nat) : Int), .slice none 0 0])) (put4 W w.heap.size (.int .i64 5) (.int .u64 ((0 : Nat) : Int)) (.int .u64 ((0 : Nat) : Int)) (.slice none 0 0)) ∧ (put4 W w.heap.size (.int .i64 5) (.int .u64 ((0 : Nat) : Int)) (.int .u64 ((0 : Nat) : Int)) (.slice none 0 0)).heap[w.heap.size]? = some (.cells #[.int .i64 5, .int .u64 ((0 : Nat) : Int), .int .u64 ((0 : Nat) : Int), .slice none 0 0] 25 (0, 0))) := ⟨made_fin (TRow.nil _ (w.heap.size + 1) _) (by omega) bW (by omega) (by omega) (by omega) (by rw [V.absL, T.countL]; exact HC.out), put4_row qW _ _ _ _⟩
      have e0 := cell_of_row W _ 0 _ _ _ pW
      have e1 := cell_of_row W _ 1 _ _ _ pW
      have e2 := cell_of_row W _ 2 _ _ _ pW
      have e3 := cell_of_row W _ 3 _ _ _ pW
      have f0 := cell_of_row W _ 0 _ _ _ qW
      have f1 := cell_of_row W _ 1 _ _ _ qW
      have f2 := cell_of_row W _ 2 _ _ _ qW
      have f3 := cell_of_row W _ 3 _ _ _ qW
      have y0 := frozen_of_row W w.heap.size 0 _ _ qW
      have y1 := frozen_of_row W w.heap.size 1 _ _ qW
      have y2 := frozen_of_row W w.heap.size 2 _ _ qW
      have y3 := frozen_of_row W w.heap.size 3 _ _ qW
      simp at e0 e1 e2 e3 f0 f1 f2 f3
      clear pW qW bW c0
      go_wp2_with fail
      show bodyPost _ _ _ _ _ (put4 W w.heap.size (.int .i64 5) (.int .u64 ((0 : Nat) : Int)) (.int .u64 ((0 : Nat) : Int)) (.slice none 0 0))
      have HX2 := HX.out
      clear HX e0 e1 e2 e3 f0 f1 f2 f3 y0 y1 y2 y3
      generalize put4 W w.heap.size (.int .i64 5) (.int .u64 ((0 : Nat) : Int)) (.int .u64 ((0 : Nat) : Int)) (.slice none 0 0) = W2 at *
      exact made_ret HX2.2 HX2.1 _ rfl
    | succ d =>
      have hd0 : (0 : Int) < ((d + 1 : Nat) : Int) := by omega
      have hd1 : ((d + 1 : Nat) : Int) - 1 = (d : Int) := by omega
      obtain ⟨m, hm, hm6⟩ : ∃ m : Nat, (n : Int) / 7 + (n : Int) % 3 * 5 = (m : Int) ∧ m < 1000000 := ⟨n / 7 + n % 3 * 5, by omega, by omega⟩
      have CH := IH.out d (by omega) m W hm6
      go_wp2_with fail
      refine CH.mono ?_
      rintro e w5 ⟨k2, a2, b2, A2, c2, us2, rfl, hct, hL2, hS2, hb5⟩
      clear CH
      have hp5 := (hb5.block (w.heap.size + 1) (by omega)).trans pW
      have hq5 := (hb5.block w.heap.size (by omega)).trans qW
      have bw5 := bW.trans (hb5.mono (by omega))
      have s5 := hb5.size
      have hT := one_tree (V.node k2 a2 b2 A2 c2 us2) w5 W.heap.size hL2 hS2 s5
      have b6 := bw5.trans (below_new w5 (.cells #[.int .i64 k2, .int .u64 (a2 : Int), .int .u64 (b2 : Int), .slice A2 us2.length c2] 25) |>.mono bw5.size)
      have q6 := (heap_alloc_old w5 (.cells #[.int .i64 k2, .int .u64 (a2 : Int), .int .u64 (b2 : Int), .slice A2 us2.length c2] 25) (show w.heap.size < w5.heap.size by omega)).trans hq5
      have p6 := (heap_alloc_old w5 (.cells #[.int .i64 k2, .int .u64 (a2 : Int), .int .u64 (b2 : Int), .slice A2 us2.length c2] 25) (show w.heap.size + 1 < w5.heap.size by omega)).trans hp5
      have c3 := cell_of_row _ _ 3 _ _ _ p6
      have z3 := frozen_of_row _ (w.heap.size + 1) 3 _ _ p6
      simp at c3
      go_upto_region 18 with (fail)
      obtain ⟨q7, p7, b7, s7⟩ := set_c (.slice (some ⟨w5.heap.size, 0, none⟩) 1 1) q6 p6 b6
      have hT7 := hT.keep (w' := (w5.alloc (.cells #[.int .i64 k2, .int .u64 (a2 : Int), .int .u64 (b2 : Int), .slice A2 us2.length c2] 25)).setCell ⟨w.heap.size + 1, 3, none⟩ (.slice (some ⟨w5.heap.size, 0, none⟩) 1 1)) (by rw [s7]; exact Nat.le_refl _) (fun g hg _ => Below.heap_setCell _ ⟨w.heap.size + 1, 3, none⟩ _ g (by show g ≠ w.heap.size + 1; omega))
      clear hT qW pW bW c0 c3 z3 hp5 hq5 bw5 b6 q6 p6 hL2 hS2 hb5
      have qW := q7
      have pW := p7
      have bW := b7
      clear q7 p7 b7
      generalize (some (⟨w5.heap.size, 0, none⟩ : Addr)) = A3 at *
      generalize World.setCell _ _ _ = W2 at *
      rename World => W
      have HX : Hid (MadeEnd (madeC (d + 1)) w (.returned (.agg #[.int .i64 5, .int .u64 ((0 : Nat) : Int), .int .u64 ((0 : Nat) : Int), .slice A3 1 1])) (put4 W w.heap.size (.int .i64 5) (.int .u64 ((0 : Nat) : Int)) (.int .u64 ((0 : Nat) : Int)) (.slice A3 1 1)) ∧ (put4 W w.heap.size (.int .i64 5) (.int .u64 ((0 : Nat) : Int)) (.int .u64 ((0 : Nat) : Int)) (.slice A3 1 1)).heap[w.heap.size]? = some (.cells #[.int .i64 5, .int .u64 ((0 : Nat) : Int), .int .u64 ((0 : Nat) : Int), .slice A3 1 1] 25 (0, 0))) := ⟨made_fin hT7 (by omega) bW (by omega) (by omega) (by omega) (by rw [V.absL, V.absL, T.countL, T.countL]; show 1 + (_ + 0) ≤ 1 + 3 * madeC d; omega), put4_row qW _ _ _ _⟩
      have e0 := cell_of_row W _ 0 _ _ _ pW
      have e1 := cell_of_row W _ 1 _ _ _ pW
      have e2 := cell_of_row W _ 2 _ _ _ pW
      have e3 := cell_of_row W _ 3 _ _ _ pW
      have f0 := cell_of_row W _ 0 _ _ _ qW
      have f1 := cell_of_row W _ 1 _ _ _ qW
      have f2 := cell_of_row W _ 2 _ _ _ qW
      have f3 := cell_of_row W _ 3 _ _ _ qW
      have y0 := frozen_of_row W w.heap.size 0 _ _ qW
      have y1 := frozen_of_row W w.heap.size 1 _ _ qW
      have y2 := frozen_of_row W w.heap.size 2 _ _ qW
      have y3 := frozen_of_row W w.heap.size 3 _ _ qW
      simp at e0 e1 e2 e3 f0 f1 f2 f3
      clear pW qW bW 
      go_wp2_with fail
      show bodyPost _ _ _ _ _ (put4 W w.heap.size (.int .i64 5) (.int .u64 ((0 : Nat) : Int)) (.int .u64 ((0 : Nat) : Int)) (.slice A3 1 1))
      have HX2 := HX.out
      clear HX e0 e1 e2 e3 f0 f1 f2 f3 y0 y1 y2 y3
      generalize put4 W w.heap.size (.int .i64 5) (.int .u64 ((0 : Nat) : Int)) (.int .u64 ((0 : Nat) : Int)) (.slice A3 1 1) = W2 at *
      exact made_ret HX2.2 HX2.1 _ rfl
  · rw [h, show (1 : Int) + 5 = 6 by rfl]
    clear h
    obtain ⟨qW, pW, bW, s1⟩ := two_boxes w 25 (.int .i64 0) (.int .u64 0) (.int .u64 0) (.slice none 0 0) (.int .i64 6) (.int .u64 0) (.int .u64 0) (.slice none 0 0)
    generalize (w.alloc _).alloc _ = W at *
    have c0 := cell_of_row W _ 0 _ _ _ pW
    simp at c0
    have hsW : w.heap.size + 2 ≤ W.heap.size := by omega
    go_upto_region 15 with (fail)
    clear c0 s1
    go_loopw [6] (fun z W => ∃ (i : Nat) (us : List V) (A : Option Addr) (c : Nat), z = .int .i64 i ∧ i ≤ 3 ∧ Hid (us.length = i ∧ T.countL (V.absL us) ≤ i * madeC (d - 1) ∧ (d = 0 → i = 0)) ∧ Hid (TRow 25 (w.heap.size + 2) (.slice A i c) us W) ∧ W.heap[w.heap.size]? = some (.cells #[.int .i64 0, .int .u64 0, .int .u64 0, .slice none 0 0] 25 (0, 0)) ∧
        W.heap[w.heap.size + 1]? = some (.cells #[.int .i64 6, .int .u64 0, .int .u64 0, .slice A i c] 25 (0, 0)) ∧ w.heap.size + 2 ≤ W.heap.size ∧ Below w.heap.size w W) (fun z _ => 3 - (intOf z).toNat)
    case atStart => exact ⟨0, [], none, 0, rfl, by omega, Lib_hid ⟨rfl, by simp [V.absL, T.countL], fun _ => rfl⟩, Lib_hid (TRow.nil _ _ _), qW, pW, hsW, bW⟩
    case round =>
      clear qW pW hsW bW
      obtain ⟨i, us, A, c, rfl, hi, hus, hT, qW, pW, hsW, bW⟩ := hrel
      rename World => W
      by_cases hgo : i < n / 7 % 4 ∧ 0 < d
      · obtain ⟨hlt, hdp⟩ := hgo
        obtain ⟨dm, hdm⟩ : ∃ dm, d = dm + 1 := ⟨d - 1, by omega⟩
        have hi2 : i ≤ 2 := by omega
        have hlt' : (i : Int) < (n : Int) / 7 % 4 := by omega
        have hd0 : (0 : Int) < (d : Int) := by omega
        obtain ⟨m, hm, hm6⟩ : ∃ m : Nat, (n : Int) / 11 + (i : Int) * 13 + 1 = (m : Int) ∧ m < 1000000 := ⟨n / 11 + i * 13 + 1, by omega, by omega⟩
        have HW : Hid (IntKind.i64.wrap (IntKind.i64.wrap (IntKind.i64.wrap ((n : Int) / 11) + IntKind.i64.wrap ((i : Int) * 13)) + 1) = (m : Int) ∧ IntKind.i64.wrap ((d : Int) - 1) = (dm : Int)) := by
          refine ⟨?_, by rw [IntWalk.i64_in _ (by omega)]; omega⟩
          rw [IntWalk.i64_in ((n : Int) / 11) (by omega), IntWalk.i64_in ((i : Int) * 13) (by omega), IntWalk.i64_in ((n : Int) / 11 + (i : Int) * 13) (by omega), IntWalk.i64_in _ (by omega), hm]
        have CH : Hid (∀ W' : World, Below W.heap.size W W' → Calls Tryz.prog 39 #[.int .i64 (m : Int), .int .i64 (dm : Int)] W' fun e w' => ∃ u : V, e = .returned (.agg #[.int .i64 u.kind, .int .u64 (u.a : Int), .int .u64 (u.b : Int), .slice u.addr u.parts.length u.cap]) ∧ u.abs.count ≤ madeC dm ∧ Lies w' W'.heap.size w'.heap.size u ∧ Shp 25 w' W'.heap.size u ∧ Below W'.heap.size W' w') := fun W' _ =>
          (IH.out dm (by omega) m W' hm6).mono fun e w' ⟨k2, a2, b2, A2, c2, us2, he, h1, h2, h3, h4⟩ => ⟨.node k2 a2 b2 A2 c2 us2, he, h1, h2, h3, h4⟩
        have hoi := hT.out.own
        rw [hus.out.1] at hoi
        have hcp := own_cap hoi
        have hm1 : i + 1 ≤ maxLen := by unfold maxLen; omega
        have hm2 : (i + 1) * 48 ≤ 140737488355328 := by omega
        have HO : Hid (∀ w2 : World, Below W.heap.size W w2 → w2.ownsRow (w.heap.size + 2) 25 4 (.slice A i c) i (vCells us)) := fun w2 h2 => own_below hoi h2 (own_lt hoi)
        have HE : Hid (∀ (W' w2 w3 w5 : World) (u : V) (v' : Value), Below W.heap.size W W' → Below W'.heap.size W' w2 → u.abs.count ≤ madeC dm → Lies w2 W'.heap.size w2.heap.size u → Shp 25 w2 W'.heap.size u → Below w2.heap.size w2 w3 → Stp w3 w5 (.slice A i c) v' →
            w5.ownsRow (w.heap.size + 2) 25 4 v' (i + 1) (vCells us ++ vCells [u]) →
            ((us ++ [u]).length = i + 1 ∧ T.countL (V.absL (us ++ [u])) ≤ (i + 1) * madeC (d - 1) ∧ (d = 0 → i + 1 = 0)) ∧ TRow 25 (w.heap.size + 2) v' (us ++ [u]) w5 ∧ (∀ g, g < w.heap.size + 2 → w5.heap[g]? = W.heap[g]?) ∧ w.heap.size + 2 ≤ w5.heap.size ∧ Below w.heap.size w w5) := by
          intro W' w2 w3 w5 u v' hb1 hb2 hua huL huS hb3 hst ho
          have hge := own_ge hoi
          have hs1 := hb1.size
          have hs2 := hb2.size
          have hs3 := hb3.size
          have hT' := hT.out.under hb1
          refine ⟨⟨by simp [hus.out.1], ?_, fun h => by omega⟩, ?_, fun g hg => ?_, by have := hst.grow.size; omega, ?_⟩
          · rw [absL_map, List.map_append, ← absL_map, countL_append, List.map_cons, List.map_nil, T.countL, T.countL]
            have := hus.out.2.1
            rw [show d - 1 = dm by omega] at this ⊢
            rw [Nat.add_mul]
            omega
          · have := hT'.push (w2 := w2) (w3 := w3) (w4 := w5) (v' := v') (u := u) (by omega) hb2 huL huS hb3 hst (by rw [hus.out.1]; exact ho)
            exact this
          · exact (hst.grow.block g (by omega) (fun e => by have := hge g e.symm; omega)).trans ((hb3.block g (by omega)).trans ((hb2.block g (by omega)).trans (hb1.block g (by omega))))
          · exact (((bW.trans (hb1.mono bW.size)).trans (hb2.mono (by have := bW.size; omega))).trans (hb3.mono (by have := bW.size; omega))).trans (hst.below (by have := bW.size; omega) fun k hk => by have := hge k hk; omega)
        have HQ := Lib_hid (And.intro qW pW)
        have HV : Hid (∀ (w2 : World) (u : V), Rd (w2.alloc (.cells #[.int .i64 u.kind, .int .u64 (u.a : Int), .int .u64 (u.b : Int), .slice u.addr u.parts.length u.cap] 25)) (w2.heap.size + 1) 4 (some ⟨w2.heap.size, 0, none⟩) 1 (vCells [u])) := fun w2 u => new_val w2 _ u
        have c3 := cell_of_row W _ 3 _ _ _ pW
        simp at c3
        obtain ⟨i0, hi0, hz0, hz1, hz2⟩ := info_parts Tryz.infoE
        have gl : w.heap.size + 1 < W.heap.size := by omega
        have HDM := Lib_hid hdm
        clear hT hus hoi hm hlt hdm
        go_wp2
        go_region_law
          ((first
            | ((refine step_app rfl (.tmp 68) (.tmp 78) 23 rfl (w.heap.size + 2) 25 i0 (.agg #[.int .i64 0, .int .u64 0, .int .u64 0, .slice none 0 0]) 4 48 Tryz.underlying23 hi0 hz0 hz1 hz2 rfl (by decide) (.slice A i c) i (vCells us) (by go_simp) (own_below (HO.out w2 hb2) (below_new w2 _) (own_lt (HO.out w2 hb2))) (w2.heap.size + 1) (some ⟨w2.heap.size, 0, none⟩) 1 1 (vCells [u]) (by go_simp) (HV.out w2 u) (v_one _) hm1 hm2 (by have := hb2.size; simp; omega) ?_); intro v5 w5 ho5 hs5; have hx := HE.out W w2 _ w5 u v5 (Below.refl _ _) hb2 hua huL huS (below_new w2 _) hs5 ho5; obtain ⟨A5, c5, rfl, _⟩ := own_form ho5; have hk5 := hx.2.2.1; have hq5 := (hk5 (w.heap.size + 1) (by omega)).trans HQ.out.2; have g5 := cell_of_row w5 _ 3 _ _ _ hq5; have z5 := frozen_of_row w5 _ 3 _ _ hq5; simp at g5)
            | (go_simp; rw [HW.out.1, HW.out.2]; refine (CH.out _ (by exact below_like4 (Below.refl _ _) rfl rfl rfl rfl)).mono ?_; rintro e w2 ⟨u, rfl, hua, huL, huS, hb2'⟩; have hb2 : Below W.heap.size W w2 := ⟨hb2'.os, hb2'.tape, hb2'.output, hb2'.size, hb2'.block⟩; have hk2 : ∀ g, g < w.heap.size + 2 → w2.heap[g]? = W.heap[g]? := (fun g hg => hb2.block g (by omega)); have g2 : w2.cell? ⟨w.heap.size + 1, 3, none⟩ = some (.slice A i c) := (World.cell?_of_block (a := ⟨w.heap.size + 1, 3, none⟩) (hk2 (w.heap.size + 1) (by omega))).trans c3; have gl2 : w.heap.size + 1 < w2.heap.size := (by have := hb2.size; omega))))
        all_goals
          have hr6 := hx.2.1.keep (w' := w5.setCell ⟨w.heap.size + 1, 3, none⟩ (.slice A5 (i + 1) c5)) (by simp [World.setCell]) (fun g hg _ => Below.heap_setCell w5 ⟨w.heap.size + 1, 3, none⟩ _ g (by show g ≠ w.heap.size + 1; omega))
          obtain ⟨q6, p6, b6, s6⟩ := set_c (.slice A5 (i + 1) c5) ((hk5 _ (by omega)).trans HQ.out.1) hq5 hx.2.2.2.2
          have s7 : w.heap.size + 2 ≤ (w5.setCell ⟨w.heap.size + 1, 3, none⟩ (.slice A5 (i + 1) c5)).heap.size := by rw [s6]; exact hx.2.2.2.1
          have HR6 := Lib_hid (And.intro hx.1 (And.intro hr6 (And.intro q6 (And.intro p6 (And.intro s7 b6)))))
          clear hr6 q6 p6 b6 s6 s7 hx hk5 hq5 g5 z5 ho5 hs5 hua huL huS hb2 hb2' hk2 g2 gl2 c3 gl CH HE HO HV HW HQ hlt' hm6 hcp hm1 hm2 hi0 hz0 hz1 hz2 qW pW hsW bW
          generalize w5.setCell ⟨w.heap.size + 1, 3, none⟩ (.slice A5 (i + 1) c5) = w6 at *
          go_wp2
          go_roundw
          case rel => exact ⟨i + 1, us ++ [u], A5, c5, by go_num, by omega, Lib_hid HR6.out.1, Lib_hid HR6.out.2.1, HR6.out.2.2.1, HR6.out.2.2.2.1, HR6.out.2.2.2.2.1, HR6.out.2.2.2.2.2⟩
          case measure => simp [intOf]; omega
      · have hcl : 1 + T.countL (V.absL us) ≤ madeC d := by
          have h1 := hus.out.2.1
          cases d with
          | zero =>
            have := hus.out.2.2 rfl
            subst this
            show _ ≤ 1
            omega
          | succ d =>
            rw [show d + 1 - 1 = d by omega] at h1
            show _ ≤ 1 + 3 * madeC d
            have := Nat.mul_le_mul_right (madeC d) hi
            omega
        have hTT := hT.out
        clear hus hT
        by_cases hlt : (i : Int) < (n : Int) / 7 % 4
        · have hd0' : ¬ (0 : Int) < (d : Int) := by omega
          go_upto_region 18 with (fail)
          clear hlt hd0' hgo
          have HX : Hid (MadeEnd (madeC d) w (.returned (.agg #[.int .i64 6, .int .u64 ((0 : Nat) : Int), .int .u64 ((0 : Nat) : Int), .slice A i c])) (put4 W w.heap.size (.int .i64 6) (.int .u64 ((0 : Nat) : Int)) (.int .u64 ((0 : Nat) : Int)) (.slice A i c)) ∧ (put4 W w.heap.size (.int .i64 6) (.int .u64 ((0 : Nat) : Int)) (.int .u64 ((0 : Nat) : Int)) (.slice A i c)).heap[w.heap.size]? = some (.cells #[.int .i64 6, .int .u64 ((0 : Nat) : Int), .int .u64 ((0 : Nat) : Int), .slice A i c] 25 (0, 0))) := ⟨made_fin hTT (by omega) bW (by omega) (by omega) (by omega) hcl, put4_row qW _ _ _ _⟩
          have e0 := cell_of_row W _ 0 _ _ _ pW
          have e1 := cell_of_row W _ 1 _ _ _ pW
          have e2 := cell_of_row W _ 2 _ _ _ pW
          have e3 := cell_of_row W _ 3 _ _ _ pW
          have f0 := cell_of_row W _ 0 _ _ _ qW
          have f1 := cell_of_row W _ 1 _ _ _ qW
          have f2 := cell_of_row W _ 2 _ _ _ qW
          have f3 := cell_of_row W _ 3 _ _ _ qW
          have y0 := frozen_of_row W w.heap.size 0 _ _ qW
          have y1 := frozen_of_row W w.heap.size 1 _ _ qW
          have y2 := frozen_of_row W w.heap.size 2 _ _ qW
          have y3 := frozen_of_row W w.heap.size 3 _ _ qW
          simp at e0 e1 e2 e3 f0 f1 f2 f3
          clear pW qW bW 
          go_wp2_with fail
          show bodyPost _ _ _ _ _ (put4 W w.heap.size (.int .i64 6) (.int .u64 ((0 : Nat) : Int)) (.int .u64 ((0 : Nat) : Int)) (.slice A i c))
          have HX2 := HX.out
          clear HX e0 e1 e2 e3 f0 f1 f2 f3 y0 y1 y2 y3
          generalize put4 W w.heap.size (.int .i64 6) (.int .u64 ((0 : Nat) : Int)) (.int .u64 ((0 : Nat) : Int)) (.slice A i c) = W2 at *
          exact made_ret HX2.2 HX2.1 _ rfl
        · go_upto_region 18 with (fail)
          clear hlt hgo
          have HX : Hid (MadeEnd (madeC d) w (.returned (.agg #[.int .i64 6, .int .u64 ((0 : Nat) : Int), .int .u64 ((0 : Nat) : Int), .slice A i c])) (put4 W w.heap.size (.int .i64 6) (.int .u64 ((0 : Nat) : Int)) (.int .u64 ((0 : Nat) : Int)) (.slice A i c)) ∧ (put4 W w.heap.size (.int .i64 6) (.int .u64 ((0 : Nat) : Int)) (.int .u64 ((0 : Nat) : Int)) (.slice A i c)).heap[w.heap.size]? = some (.cells #[.int .i64 6, .int .u64 ((0 : Nat) : Int), .int .u64 ((0 : Nat) : Int), .slice A i c] 25 (0, 0))) := ⟨made_fin hTT (by omega) bW (by omega) (by omega) (by omega) hcl, put4_row qW _ _ _ _⟩
          have e0 := cell_of_row W _ 0 _ _ _ pW
          have e1 := cell_of_row W _ 1 _ _ _ pW
          have e2 := cell_of_row W _ 2 _ _ _ pW
          have e3 := cell_of_row W _ 3 _ _ _ pW
          have f0 := cell_of_row W _ 0 _ _ _ qW
          have f1 := cell_of_row W _ 1 _ _ _ qW
          have f2 := cell_of_row W _ 2 _ _ _ qW
          have f3 := cell_of_row W _ 3 _ _ _ qW
          have y0 := frozen_of_row W w.heap.size 0 _ _ qW
          have y1 := frozen_of_row W w.heap.size 1 _ _ qW
          have y2 := frozen_of_row W w.heap.size 2 _ _ qW
          have y3 := frozen_of_row W w.heap.size 3 _ _ qW
          simp at e0 e1 e2 e3 f0 f1 f2 f3
          clear pW qW bW 
          go_wp2_with fail
          show bodyPost _ _ _ _ _ (put4 W w.heap.size (.int .i64 6) (.int .u64 ((0 : Nat) : Int)) (.int .u64 ((0 : Nat) : Int)) (.slice A i c))
          have HX2 := HX.out
          clear HX e0 e1 e2 e3 f0 f1 f2 f3 y0 y1 y2 y3
          generalize put4 W w.heap.size (.int .i64 6) (.int .u64 ((0 : Nat) : Int)) (.int .u64 ((0 : Nat) : Int)) (.slice A i c) = W2 at *
          exact made_ret HX2.2 HX2.1 _ rfl
  · rw [h, show (1 : Int) + 6 = 7 by rfl]
    clear h
    obtain ⟨qW, pW, bW, s1⟩ := two_boxes w 25 (.int .i64 0) (.int .u64 0) (.int .u64 0) (.slice none 0 0) (.int .i64 7) (.int .u64 0) (.int .u64 0) (.slice none 0 0)
    generalize (w.alloc _).alloc _ = W at *
    have c0 := cell_of_row W _ 0 _ _ _ pW
    simp at c0
    have hsW : w.heap.size + 2 ≤ W.heap.size := by omega
    go_upto_region 15 with (fail)
    clear c0 s1
    go_loopw [6] (fun z W => ∃ (i : Nat) (us : List V) (A : Option Addr) (c : Nat), z = .int .i64 i ∧ i ≤ 3 ∧ Hid (us.length = i ∧ T.countL (V.absL us) ≤ i * madeC (d - 1) ∧ (d = 0 → i = 0)) ∧ Hid (TRow 25 (w.heap.size + 2) (.slice A i c) us W) ∧ W.heap[w.heap.size]? = some (.cells #[.int .i64 0, .int .u64 0, .int .u64 0, .slice none 0 0] 25 (0, 0)) ∧
        W.heap[w.heap.size + 1]? = some (.cells #[.int .i64 7, .int .u64 0, .int .u64 0, .slice A i c] 25 (0, 0)) ∧ w.heap.size + 2 ≤ W.heap.size ∧ Below w.heap.size w W) (fun z _ => 3 - (intOf z).toNat)
    case atStart => exact ⟨0, [], none, 0, rfl, by omega, Lib_hid ⟨rfl, by simp [V.absL, T.countL], fun _ => rfl⟩, Lib_hid (TRow.nil _ _ _), qW, pW, hsW, bW⟩
    case round =>
      clear qW pW hsW bW
      obtain ⟨i, us, A, c, rfl, hi, hus, hT, qW, pW, hsW, bW⟩ := hrel
      rename World => W
      by_cases hgo : i < n / 7 % 4 ∧ 0 < d
      · obtain ⟨hlt, hdp⟩ := hgo
        obtain ⟨dm, hdm⟩ : ∃ dm, d = dm + 1 := ⟨d - 1, by omega⟩
        have hi2 : i ≤ 2 := by omega
        have hlt' : (i : Int) < (n : Int) / 7 % 4 := by omega
        have hd0 : (0 : Int) < (d : Int) := by omega
        obtain ⟨m, hm, hm6⟩ : ∃ m : Nat, (n : Int) / 11 + (i : Int) * 13 + 1 = (m : Int) ∧ m < 1000000 := ⟨n / 11 + i * 13 + 1, by omega, by omega⟩
        have HW : Hid (IntKind.i64.wrap (IntKind.i64.wrap (IntKind.i64.wrap ((n : Int) / 11) + IntKind.i64.wrap ((i : Int) * 13)) + 1) = (m : Int) ∧ IntKind.i64.wrap ((d : Int) - 1) = (dm : Int)) := by
          refine ⟨?_, by rw [IntWalk.i64_in _ (by omega)]; omega⟩
          rw [IntWalk.i64_in ((n : Int) / 11) (by omega), IntWalk.i64_in ((i : Int) * 13) (by omega), IntWalk.i64_in ((n : Int) / 11 + (i : Int) * 13) (by omega), IntWalk.i64_in _ (by omega), hm]
        have CH : Hid (∀ W' : World, Below W.heap.size W W' → Calls Tryz.prog 39 #[.int .i64 (m : Int), .int .i64 (dm : Int)] W' fun e w' => ∃ u : V, e = .returned (.agg #[.int .i64 u.kind, .int .u64 (u.a : Int), .int .u64 (u.b : Int), .slice u.addr u.parts.length u.cap]) ∧ u.abs.count ≤ madeC dm ∧ Lies w' W'.heap.size w'.heap.size u ∧ Shp 25 w' W'.heap.size u ∧ Below W'.heap.size W' w') := fun W' _ =>
          (IH.out dm (by omega) m W' hm6).mono fun e w' ⟨k2, a2, b2, A2, c2, us2, he, h1, h2, h3, h4⟩ => ⟨.node k2 a2 b2 A2 c2 us2, he, h1, h2, h3, h4⟩
        have hoi := hT.out.own
        rw [hus.out.1] at hoi
        have hcp := own_cap hoi
        have hm1 : i + 1 ≤ maxLen := by unfold maxLen; omega
        have hm2 : (i + 1) * 48 ≤ 140737488355328 := by omega
        have HO : Hid (∀ w2 : World, Below W.heap.size W w2 → w2.ownsRow (w.heap.size + 2) 25 4 (.slice A i c) i (vCells us)) := fun w2 h2 => own_below hoi h2 (own_lt hoi)
        have HE : Hid (∀ (W' w2 w3 w5 : World) (u : V) (v' : Value), Below W.heap.size W W' → Below W'.heap.size W' w2 → u.abs.count ≤ madeC dm → Lies w2 W'.heap.size w2.heap.size u → Shp 25 w2 W'.heap.size u → Below w2.heap.size w2 w3 → Stp w3 w5 (.slice A i c) v' →
            w5.ownsRow (w.heap.size + 2) 25 4 v' (i + 1) (vCells us ++ vCells [u]) →
            ((us ++ [u]).length = i + 1 ∧ T.countL (V.absL (us ++ [u])) ≤ (i + 1) * madeC (d - 1) ∧ (d = 0 → i + 1 = 0)) ∧ TRow 25 (w.heap.size + 2) v' (us ++ [u]) w5 ∧ (∀ g, g < w.heap.size + 2 → w5.heap[g]? = W.heap[g]?) ∧ w.heap.size + 2 ≤ w5.heap.size ∧ Below w.heap.size w w5) := by
          intro W' w2 w3 w5 u v' hb1 hb2 hua huL huS hb3 hst ho
          have hge := own_ge hoi
          have hs1 := hb1.size
          have hs2 := hb2.size
          have hs3 := hb3.size
          have hT' := hT.out.under hb1
          refine ⟨⟨by simp [hus.out.1], ?_, fun h => by omega⟩, ?_, fun g hg => ?_, by have := hst.grow.size; omega, ?_⟩
          · rw [absL_map, List.map_append, ← absL_map, countL_append, List.map_cons, List.map_nil, T.countL, T.countL]
            have := hus.out.2.1
            rw [show d - 1 = dm by omega] at this ⊢
            rw [Nat.add_mul]
            omega
          · have := hT'.push (w2 := w2) (w3 := w3) (w4 := w5) (v' := v') (u := u) (by omega) hb2 huL huS hb3 hst (by rw [hus.out.1]; exact ho)
            exact this
          · exact (hst.grow.block g (by omega) (fun e => by have := hge g e.symm; omega)).trans ((hb3.block g (by omega)).trans ((hb2.block g (by omega)).trans (hb1.block g (by omega))))
          · exact (((bW.trans (hb1.mono bW.size)).trans (hb2.mono (by have := bW.size; omega))).trans (hb3.mono (by have := bW.size; omega))).trans (hst.below (by have := bW.size; omega) fun k hk => by have := hge k hk; omega)
        have HQ := Lib_hid (And.intro qW pW)
        have HV : Hid (∀ (w2 : World) (u : V), Rd (w2.alloc (.cells #[.int .i64 u.kind, .int .u64 (u.a : Int), .int .u64 (u.b : Int), .slice u.addr u.parts.length u.cap] 25)) (w2.heap.size + 1) 4 (some ⟨w2.heap.size, 0, none⟩) 1 (vCells [u])) := fun w2 u => new_val w2 _ u
        have c3 := cell_of_row W _ 3 _ _ _ pW
        simp at c3
        obtain ⟨i0, hi0, hz0, hz1, hz2⟩ := info_parts Tryz.infoE
        have gl : w.heap.size + 1 < W.heap.size := by omega
        have HDM := Lib_hid hdm
        clear hT hus hoi hm hlt hdm
        go_wp2
        go_region_law
          ((first
            | ((refine step_app rfl (.tmp 68) (.tmp 78) 23 rfl (w.heap.size + 2) 25 i0 (.agg #[.int .i64 0, .int .u64 0, .int .u64 0, .slice none 0 0]) 4 48 Tryz.underlying23 hi0 hz0 hz1 hz2 rfl (by decide) (.slice A i c) i (vCells us) (by go_simp) (own_below (HO.out w2 hb2) (below_new w2 _) (own_lt (HO.out w2 hb2))) (w2.heap.size + 1) (some ⟨w2.heap.size, 0, none⟩) 1 1 (vCells [u]) (by go_simp) (HV.out w2 u) (v_one _) hm1 hm2 (by have := hb2.size; simp; omega) ?_); intro v5 w5 ho5 hs5; have hx := HE.out W w2 _ w5 u v5 (Below.refl _ _) hb2 hua huL huS (below_new w2 _) hs5 ho5; obtain ⟨A5, c5, rfl, _⟩ := own_form ho5; have hk5 := hx.2.2.1; have hq5 := (hk5 (w.heap.size + 1) (by omega)).trans HQ.out.2; have g5 := cell_of_row w5 _ 3 _ _ _ hq5; have z5 := frozen_of_row w5 _ 3 _ _ hq5; simp at g5)
            | (go_simp; rw [HW.out.1, HW.out.2]; refine (CH.out _ (by exact below_like4 (Below.refl _ _) rfl rfl rfl rfl)).mono ?_; rintro e w2 ⟨u, rfl, hua, huL, huS, hb2'⟩; have hb2 : Below W.heap.size W w2 := ⟨hb2'.os, hb2'.tape, hb2'.output, hb2'.size, hb2'.block⟩; have hk2 : ∀ g, g < w.heap.size + 2 → w2.heap[g]? = W.heap[g]? := (fun g hg => hb2.block g (by omega)); have g2 : w2.cell? ⟨w.heap.size + 1, 3, none⟩ = some (.slice A i c) := (World.cell?_of_block (a := ⟨w.heap.size + 1, 3, none⟩) (hk2 (w.heap.size + 1) (by omega))).trans c3; have gl2 : w.heap.size + 1 < w2.heap.size := (by have := hb2.size; omega))))
        all_goals
          have hr6 := hx.2.1.keep (w' := w5.setCell ⟨w.heap.size + 1, 3, none⟩ (.slice A5 (i + 1) c5)) (by simp [World.setCell]) (fun g hg _ => Below.heap_setCell w5 ⟨w.heap.size + 1, 3, none⟩ _ g (by show g ≠ w.heap.size + 1; omega))
          obtain ⟨q6, p6, b6, s6⟩ := set_c (.slice A5 (i + 1) c5) ((hk5 _ (by omega)).trans HQ.out.1) hq5 hx.2.2.2.2
          have s7 : w.heap.size + 2 ≤ (w5.setCell ⟨w.heap.size + 1, 3, none⟩ (.slice A5 (i + 1) c5)).heap.size := by rw [s6]; exact hx.2.2.2.1
          have HR6 := Lib_hid (And.intro hx.1 (And.intro hr6 (And.intro q6 (And.intro p6 (And.intro s7 b6)))))
          clear hr6 q6 p6 b6 s6 s7 hx hk5 hq5 g5 z5 ho5 hs5 hua huL huS hb2 hb2' hk2 g2 gl2 c3 gl CH HE HO HV HW HQ hlt' hm6 hcp hm1 hm2 hi0 hz0 hz1 hz2 qW pW hsW bW
          generalize w5.setCell ⟨w.heap.size + 1, 3, none⟩ (.slice A5 (i + 1) c5) = w6 at *
          go_wp2
          go_roundw
          case rel => exact ⟨i + 1, us ++ [u], A5, c5, by go_num, by omega, Lib_hid HR6.out.1, Lib_hid HR6.out.2.1, HR6.out.2.2.1, HR6.out.2.2.2.1, HR6.out.2.2.2.2.1, HR6.out.2.2.2.2.2⟩
          case measure => simp [intOf]; omega
      · have hcl : 1 + T.countL (V.absL us) ≤ madeC d := by
          have h1 := hus.out.2.1
          cases d with
          | zero =>
            have := hus.out.2.2 rfl
            subst this
            show _ ≤ 1
            omega
          | succ d =>
            rw [show d + 1 - 1 = d by omega] at h1
            show _ ≤ 1 + 3 * madeC d
            have := Nat.mul_le_mul_right (madeC d) hi
            omega
        have hTT := hT.out
        clear hus hT
        by_cases hlt : (i : Int) < (n : Int) / 7 % 4
        · have hd0' : ¬ (0 : Int) < (d : Int) := by omega
          go_upto_region 18 with (fail)
          clear hlt hd0' hgo
          have HX : Hid (MadeEnd (madeC d) w (.returned (.agg #[.int .i64 7, .int .u64 ((0 : Nat) : Int), .int .u64 ((0 : Nat) : Int), .slice A i c])) (put4 W w.heap.size (.int .i64 7) (.int .u64 ((0 : Nat) : Int)) (.int .u64 ((0 : Nat) : Int)) (.slice A i c)) ∧ (put4 W w.heap.size (.int .i64 7) (.int .u64 ((0 : Nat) : Int)) (.int .u64 ((0 : Nat) : Int)) (.slice A i c)).heap[w.heap.size]? = some (.cells #[.int .i64 7, .int .u64 ((0 : Nat) : Int), .int .u64 ((0 : Nat) : Int), .slice A i c] 25 (0, 0))) := ⟨made_fin hTT (by omega) bW (by omega) (by omega) (by omega) hcl, put4_row qW _ _ _ _⟩
          have e0 := cell_of_row W _ 0 _ _ _ pW
          have e1 := cell_of_row W _ 1 _ _ _ pW
          have e2 := cell_of_row W _ 2 _ _ _ pW
          have e3 := cell_of_row W _ 3 _ _ _ pW
          have f0 := cell_of_row W _ 0 _ _ _ qW
          have f1 := cell_of_row W _ 1 _ _ _ qW
          have f2 := cell_of_row W _ 2 _ _ _ qW
          have f3 := cell_of_row W _ 3 _ _ _ qW
          have y0 := frozen_of_row W w.heap.size 0 _ _ qW
          have y1 := frozen_of_row W w.heap.size 1 _ _ qW
          have y2 := frozen_of_row W w.heap.size 2 _ _ qW
          have y3 := frozen_of_row W w.heap.size 3 _ _ qW
          simp at e0 e1 e2 e3 f0 f1 f2 f3
          clear pW qW bW 
          go_wp2_with fail
          show bodyPost _ _ _ _ _ (put4 W w.heap.size (.int .i64 7) (.int .u64 ((0 : Nat) : Int)) (.int .u64 ((0 : Nat) : Int)) (.slice A i c))
          have HX2 := HX.out
          clear HX e0 e1 e2 e3 f0 f1 f2 f3 y0 y1 y2 y3
          generalize put4 W w.heap.size (.int .i64 7) (.int .u64 ((0 : Nat) : Int)) (.int .u64 ((0 : Nat) : Int)) (.slice A i c) = W2 at *
          exact made_ret HX2.2 HX2.1 _ rfl
        · go_upto_region 18 with (fail)
          clear hlt hgo
          have HX : Hid (MadeEnd (madeC d) w (.returned (.agg #[.int .i64 7, .int .u64 ((0 : Nat) : Int), .int .u64 ((0 : Nat) : Int), .slice A i c])) (put4 W w.heap.size (.int .i64 7) (.int .u64 ((0 : Nat) : Int)) (.int .u64 ((0 : Nat) : Int)) (.slice A i c)) ∧ (put4 W w.heap.size (.int .i64 7) (.int .u64 ((0 : Nat) : Int)) (.int .u64 ((0 : Nat) : Int)) (.slice A i c)).heap[w.heap.size]? = some (.cells #[.int .i64 7, .int .u64 ((0 : Nat) : Int), .int .u64 ((0 : Nat) : Int), .slice A i c] 25 (0, 0))) := ⟨made_fin hTT (by omega) bW (by omega) (by omega) (by omega) hcl, put4_row qW _ _ _ _⟩
          have e0 := cell_of_row W _ 0 _ _ _ pW
          have e1 := cell_of_row W _ 1 _ _ _ pW
          have e2 := cell_of_row W _ 2 _ _ _ pW
          have e3 := cell_of_row W _ 3 _ _ _ pW
          have f0 := cell_of_row W _ 0 _ _ _ qW
          have f1 := cell_of_row W _ 1 _ _ _ qW
          have f2 := cell_of_row W _ 2 _ _ _ qW
          have f3 := cell_of_row W _ 3 _ _ _ qW
          have y0 := frozen_of_row W w.heap.size 0 _ _ qW
          have y1 := frozen_of_row W w.heap.size 1 _ _ qW
          have y2 := frozen_of_row W w.heap.size 2 _ _ qW
          have y3 := frozen_of_row W w.heap.size 3 _ _ qW
          simp at e0 e1 e2 e3 f0 f1 f2 f3
          clear pW qW bW 
          go_wp2_with fail
          show bodyPost _ _ _ _ _ (put4 W w.heap.size (.int .i64 7) (.int .u64 ((0 : Nat) : Int)) (.int .u64 ((0 : Nat) : Int)) (.slice A i c))
          have HX2 := HX.out
          clear HX e0 e1 e2 e3 f0 f1 f2 f3 y0 y1 y2 y3
          generalize put4 W w.heap.size (.int .i64 7) (.int .u64 ((0 : Nat) : Int)) (.int .u64 ((0 : Nat) : Int)) (.slice A i c) = W2 at *
          exact made_ret HX2.2 HX2.1 _ rfl

end Go.Proofs.YtiijdacnfhiagaaGreatDoor
