/-
  Layer 5: names, kindOf.
  Layer 5: Line, the program's.
  Layer 4: the statements' SpoilExpr, over any tree in new memory.
  Layer 4: Both.
-/
import Derived.Test.YtiiiklenhmhccaaGreatDoorZpVpm
import Derived.Test.YtiiiklenhmhccaaGreatDoorZpVls
import Derived.Test.YtiiiklenhmhccaaGreatDoorZpVfd
import Derived.Test.YtiiiklenhmhccaaGreatDoorZpTcl
import Derived.Test.YtiiiklenhmhccaaGreatDoorZpTp4

namespace Go.Proofs.YtiiiklenhmhccaaGreatDoor
open Go Go.RowKit
set_option linter.unusedVariables false
def namesA : Array Value := #[.string ⟨#[]⟩, .string ⟨(nameL 1).toArray⟩, .string ⟨(nameL 2).toArray⟩, .string ⟨(nameL 3).toArray⟩, .string ⟨(nameL 4).toArray⟩, .string ⟨(nameL 5).toArray⟩, .string ⟨(nameL 6).toArray⟩, .string ⟨(nameL 7).toArray⟩]
theorem names_any (w : World) : Calls Tryz.prog 43 #[] w fun e w' => e = .returned (.agg namesA) ∧ Below w.heap.size w w' := by
  have hsz : (Tryz.prog.info? 105).map (·.size) = some 8 := by kernel_rfl
  go_enter Tryz.func43, Tryz.ntmps43
  go_wp2
  exact bodyPost_ret (results_cell_row (p := 0) (ty := 105) rfl _ _ w.heap.size 105 namesA (0, 0) _ rfl (heap_alloc_new w _) Tryz.underlying105 rfl hsz) rfl ⟨rfl, below_new w _⟩
set_option maxRecDepth 100000 in
theorem index_name {i : Nat} (hi : i < 8) : ∀ W : World, (Instr.index 105 (.agg namesA) (.int .i64 (i : Int))).run Tryz.prog W = .ok (.string ⟨(nameL (i : Int)).toArray⟩) W := by
  have : i = 0 ∨ i = 1 ∨ i = 2 ∨ i = 3 ∨ i = 4 ∨ i = 5 ∨ i = 6 ∨ i = 7 := by omega
  rcases this with rfl | rfl | rfl | rfl | rfl | rfl | rfl | rfl <;> exact fun W => by kernel_rfl
theorem kindL_zero {s : List UInt8} (h : ∀ j : Nat, j < 8 → nameL (j : Int) ≠ s) : kindL s = 0 := by
  unfold kindL
  rw [if_neg fun e => h 1 (by omega) e.symm, if_neg fun e => h 2 (by omega) e.symm, if_neg fun e => h 3 (by omega) e.symm, if_neg fun e => h 4 (by omega) e.symm, if_neg fun e => h 5 (by omega) e.symm, if_neg fun e => h 6 (by omega) e.symm, if_neg fun e => h 7 (by omega) e.symm]
theorem kindL_at {s : List UInt8} {i : Nat} (hi : i < 8) (h : nameL (i : Int) = s) : kindL s = i := by
  subst h
  have : i = 0 ∨ i = 1 ∨ i = 2 ∨ i = 3 ∨ i = 4 ∨ i = 5 ∨ i = 6 ∨ i = 7 := by omega
  rcases this with rfl | rfl | rfl | rfl | rfl | rfl | rfl | rfl <;> decide
set_option maxRecDepth 100000 in
set_option maxHeartbeats 1600000 in
theorem kindof5_any (s : List UInt8) (w : World) : Calls Tryz.prog 66 #[.string ⟨s.toArray⟩] w fun e w' => e = .returned (.int .i64 (kindL s : Nat)) ∧ Below w.heap.size w w' := by
  have HIX := Lib_hid (fun (i : Nat) (hi : i < 8) => index_name hi)
  have HZ : Hid ((∀ j : Nat, j < 8 → nameL (j : Int) ≠ s) → kindL s = 0) := kindL_zero
  have HA : Hid (∀ i : Nat, i < 8 → nameL (i : Int) = s → kindL s = i) := fun i => kindL_at
  generalize kindL s = ks at *
  go_enter Tryz.func66, Tryz.ntmps66
  go_wp2_with fail
  refine (names_any _).mono ?_
  rintro e w1 ⟨rfl, hb1⟩
  generalize namesA = na at *
  go_wp2
  go_loop [6] (fun z => ∃ i : Nat, z = .int .i64 i ∧ i ≤ 8 ∧ Hid (∀ j : Nat, j < i → nameL (j : Int) ≠ s)) (fun z => 8 - (intOf z).toNat)
  case atStart => exact ⟨0, rfl, by omega, fun j hj => absurd hj (by omega)⟩
  case round =>
    obtain ⟨i, rfl, hi8, hall⟩ := hrel
    by_cases hlt : i < 8
    · have hix := HIX.out i hlt
      have HN := Lib_hid (HA.out i hlt)
      have HS : Hid (nameL (i : Int) ≠ s → ∀ j : Nat, j < i + 1 → nameL (j : Int) ≠ s) := fun h j hj => by
        rcases Nat.lt_or_ge j i with h2 | h2
        · exact hall.out j h2
        · obtain rfl : j = i := by omega
          exact h
      generalize nameL (i : Int) = nm at *
      by_cases he : nm = s
      · have hb : (nm == s) = true := by simp [he]
        have HF := Lib_hid (HN.out he)
        subst he
        clear HN HS hall HA HZ hb
        go_wp2
        go_ret
        exact ⟨by rw [HF.out]; rfl, hb1⟩
      · have hb : (nm == s) = false := by simp [he]
        have HS2 := Lib_hid (HS.out he)
        clear HN HS hall he
        go_wp2
        go_round
        case rel => exact ⟨i + 1, by go_num, by omega, HS2⟩
        case measure => simp [intOf]; omega
    · obtain rfl : i = 8 := by omega
      have HF := Lib_hid (HZ.out hall.out)
      go_wp2
      go_ret
      exact ⟨by rw [HF.out]; rfl, hb1⟩
end Go.Proofs.YtiiiklenhmhccaaGreatDoor

namespace Go.Proofs.YtiiiklenhmhccaaGreatDoor
open Go Go.RowKit
set_option linter.unusedVariables false
def put11 (w : World) (g : Nat) (v0 v1 v2 v3 v4 v5 v6 v7 v8 v9 v10 : Value) : World :=
  ((((((((((w.setCell ⟨g, 0, none⟩ v0).setCell ⟨g, 1, none⟩ v1).setCell ⟨g, 2, none⟩ v2).setCell ⟨g, 3, none⟩ v3).setCell ⟨g, 4, none⟩ v4).setCell ⟨g, 5, none⟩ v5).setCell ⟨g, 6, none⟩ v6).setCell ⟨g, 7, none⟩ v7).setCell ⟨g, 8, none⟩ v8).setCell ⟨g, 9, none⟩ v9).setCell ⟨g, 10, none⟩ v10
section
variable {w : World} {g : Nat} {t : TypeId} {x0 x1 x2 x3 x4 x5 x6 x7 x8 x9 x10 : Value} (v0 v1 v2 v3 v4 v5 v6 v7 v8 v9 v10 : Value)
theorem put11_row (h : w.heap[g]? = some (.cells #[x0, x1, x2, x3, x4, x5, x6, x7, x8, x9, x10] t (0, 0))) : (put11 w g v0 v1 v2 v3 v4 v5 v6 v7 v8 v9 v10).heap[g]? = some (.cells #[v0, v1, v2, v3, v4, v5, v6, v7, v8, v9, v10] t (0, 0)) := by
  obtain ⟨w0, e0⟩ : ∃ w0, w0 = w.setCell ⟨g, 0, none⟩ v0 := ⟨_, rfl⟩
  have h0 : w0.heap[g]? = some (.cells #[v0, x1, x2, x3, x4, x5, x6, x7, x8, x9, x10] t (0, 0)) := by rw [e0]; exact Joins.block_setCell (i := 0) h v0
  obtain ⟨w1, e1⟩ : ∃ w1, w1 = w0.setCell ⟨g, 1, none⟩ v1 := ⟨_, rfl⟩
  have h1 : w1.heap[g]? = some (.cells #[v0, v1, x2, x3, x4, x5, x6, x7, x8, x9, x10] t (0, 0)) := by rw [e1]; exact Joins.block_setCell (i := 1) h0 v1
  obtain ⟨w2, e2⟩ : ∃ w2, w2 = w1.setCell ⟨g, 2, none⟩ v2 := ⟨_, rfl⟩
  have h2 : w2.heap[g]? = some (.cells #[v0, v1, v2, x3, x4, x5, x6, x7, x8, x9, x10] t (0, 0)) := by rw [e2]; exact Joins.block_setCell (i := 2) h1 v2
  obtain ⟨w3, e3⟩ : ∃ w3, w3 = w2.setCell ⟨g, 3, none⟩ v3 := ⟨_, rfl⟩
  have h3 : w3.heap[g]? = some (.cells #[v0, v1, v2, v3, x4, x5, x6, x7, x8, x9, x10] t (0, 0)) := by rw [e3]; exact Joins.block_setCell (i := 3) h2 v3
  obtain ⟨w4, e4⟩ : ∃ w4, w4 = w3.setCell ⟨g, 4, none⟩ v4 := ⟨_, rfl⟩
  have h4 : w4.heap[g]? = some (.cells #[v0, v1, v2, v3, v4, x5, x6, x7, x8, x9, x10] t (0, 0)) := by rw [e4]; exact Joins.block_setCell (i := 4) h3 v4
  obtain ⟨w5, e5⟩ : ∃ w5, w5 = w4.setCell ⟨g, 5, none⟩ v5 := ⟨_, rfl⟩
  have h5 : w5.heap[g]? = some (.cells #[v0, v1, v2, v3, v4, v5, x6, x7, x8, x9, x10] t (0, 0)) := by rw [e5]; exact Joins.block_setCell (i := 5) h4 v5
  obtain ⟨w6, e6⟩ : ∃ w6, w6 = w5.setCell ⟨g, 6, none⟩ v6 := ⟨_, rfl⟩
  have h6 : w6.heap[g]? = some (.cells #[v0, v1, v2, v3, v4, v5, v6, x7, x8, x9, x10] t (0, 0)) := by rw [e6]; exact Joins.block_setCell (i := 6) h5 v6
  obtain ⟨w7, e7⟩ : ∃ w7, w7 = w6.setCell ⟨g, 7, none⟩ v7 := ⟨_, rfl⟩
  have h7 : w7.heap[g]? = some (.cells #[v0, v1, v2, v3, v4, v5, v6, v7, x8, x9, x10] t (0, 0)) := by rw [e7]; exact Joins.block_setCell (i := 7) h6 v7
  obtain ⟨w8, e8⟩ : ∃ w8, w8 = w7.setCell ⟨g, 8, none⟩ v8 := ⟨_, rfl⟩
  have h8 : w8.heap[g]? = some (.cells #[v0, v1, v2, v3, v4, v5, v6, v7, v8, x9, x10] t (0, 0)) := by rw [e8]; exact Joins.block_setCell (i := 8) h7 v8
  obtain ⟨w9, e9⟩ : ∃ w9, w9 = w8.setCell ⟨g, 9, none⟩ v9 := ⟨_, rfl⟩
  have h9 : w9.heap[g]? = some (.cells #[v0, v1, v2, v3, v4, v5, v6, v7, v8, v9, x10] t (0, 0)) := by rw [e9]; exact Joins.block_setCell (i := 9) h8 v9
  obtain ⟨w10, e10⟩ : ∃ w10, w10 = w9.setCell ⟨g, 10, none⟩ v10 := ⟨_, rfl⟩
  have h10 : w10.heap[g]? = some (.cells #[v0, v1, v2, v3, v4, v5, v6, v7, v8, v9, v10] t (0, 0)) := by rw [e10]; exact Joins.block_setCell (i := 10) h9 v10
  unfold put11
  rw [← e0, ← e1, ← e2, ← e3, ← e4, ← e5, ← e6, ← e7, ← e8, ← e9, ← e10]
  exact h10
theorem put11_else (w : World) {k : Nat} (h : k ≠ g) : (put11 w g v0 v1 v2 v3 v4 v5 v6 v7 v8 v9 v10).heap[k]? = w.heap[k]? := by
  unfold put11
  iterate 11 rw [Below.heap_setCell _ _ _ _ h]
theorem put11_size (w : World) : (put11 w g v0 v1 v2 v3 v4 v5 v6 v7 v8 v9 v10).heap.size = w.heap.size := by simp [put11, World.setCell]
theorem put11_grow (w : World) (b : Nat) : Grow2 w (put11 w g v0 v1 v2 v3 v4 v5 v6 v7 v8 v9 v10) g b := by
  unfold put11
  exact Grow2.trans (Grow2.trans (Grow2.trans (Grow2.trans (Grow2.trans (Grow2.trans (Grow2.trans (Grow2.trans (Grow2.trans (Grow2.trans (Grow2.set _ g b 0 _) (Grow2.set _ g b 1 _)) (Grow2.set _ g b 2 _)) (Grow2.set _ g b 3 _)) (Grow2.set _ g b 4 _)) (Grow2.set _ g b 5 _)) (Grow2.set _ g b 6 _)) (Grow2.set _ g b 7 _)) (Grow2.set _ g b 8 _)) (Grow2.set _ g b 9 _)) (Grow2.set _ g b 10 _)
end
def ansR : Option Rc → Rc × Nat
  | some r => (r, 0)
  | none => (Rc.zero 0, 50)
def RecEnd (o : Rc × Nat) (w : World) (e : Ending) (w' : World) : Prop :=
  ∃ r : Rv, e = .returned (.tuple #[r.val, .int .i64 (o.2 : Int)]) ∧ r.abs = o.1 ∧ RLies w' w.heap.size w'.heap.size r ∧ Shp 27 w' w.heap.size r.p ∧
    w'.ownsRow w.heap.size 84 4 (.slice r.A r.es.length r.c) r.es.length (enCells r.es) ∧ Below w.heap.size w w'
theorem RdS.kept {lo a g : Nat} {r : Rv} {s : List UInt8} {bad : Bool} {w W : World} (h : RdS lo a g r s bad w) (hb : Below w.heap.size w W) : RdS lo a g r s bad W := by
  have h1 := h.al
  have h2 := h.gl
  have h3 := h.hi
  obtain ⟨hSh, hOw⟩ := h.rest (Grow2.ofB hb)
  exact ⟨(hb.block a (by omega)).trans h.box, (hb.block g (by omega)).trans h.wds, h.lies.grow2 (Grow2.ofB hb (a := a) (b := g)) h1 h2 (Nat.le_refl _), h1, h2, h.ne, Nat.le_trans h3 hb.size, hSh, hOw⟩
theorem line_ret {Q : Ending → World → Prop} {W : World} {h0 : Nat} {z : Int} {x0 x1 x2 x3 x4 x5 x6 x7 x8 x9 x10 : Value} (HR : W.heap[h0]? = some (.cells #[x0, x1, x2, x3, x4, x5, x6, x7, x8, x9, x10] 30 (0, 0)))
    (HF : Q (.returned (.tuple #[.agg #[x0, x1, x2, x3, x4, x5, x6, x7, x8, x9, x10], .int .i64 z])) W)
    (tmps : Array Value) (h2 : tmps.getD 2 undef = .pointer (some ⟨h0, 0, none⟩)) (h3 : tmps.getD 3 undef = .int .i64 z) : bodyPost Tryz.prog Tryz.f31 Q .ret { tmps := tmps, defers := [] } W := by
  rw [Array.getD_eq_getD_getElem?] at h2 h3
  obtain ⟨d0, d1, d2, d3, d4, d5, d6, d7, d8, d9, d10⟩ := rec_cells HR
  exact bodyPost_ret (v := .tuple #[.agg #[x0, x1, x2, x3, x4, x5, x6, x7, x8, x9, x10], .int .i64 z]) (by simp [results, Tryz.results31, go_sem, h2, h3, d0, d1, d2, d3, d4, d5, d6, d7, d8, d9, d10]) rfl HF
theorem rlies_zero (w : World) (lo hi : Nat) (k : Int) (hk : -9223372036854775808 ≤ k ∧ k ≤ 9223372036854775807) : RLies w lo hi ⟨k, 0, 0, 0, 0, 0, .node 0 0 0 none 0 [], none, 0, []⟩ :=
  ⟨hk, by show ((0 : Nat) : Int) ≤ _; omega, by show ((0 : Nat) : Int) ≤ _; omega, by show ((0 : Nat) : Int) ≤ _; omega, by show ((0 : Nat) : Int) ≤ _; omega, by show ((0 : Nat) : Int) ≤ _; omega, lies_zero w lo hi, Rd.zero, ⟨Nat.le_refl _, by show (0 : Nat) ≤ _; omega⟩, (by intro e he; cases he), (by intro ad e; cases e)⟩
theorem abs_zero (k : Int) : (Rv.mk k 0 0 0 0 0 (.node 0 0 0 none 0 []) none 0 []).abs = Rc.zero k := by simp [Rv.abs, V.abs, V.absL, Rc.zero]
set_option maxRecDepth 100000 in
set_option maxHeartbeats 6400000 in
theorem pline_any (B : Nat) (s : List UInt8) (w : World) (hE : EnvM B w) (hB : B ≤ w.heap.size) (hl : s.length ≤ 1000000) :
    Calls Tryz.prog 31 #[.string ⟨s.toArray⟩] w (RecEnd (ansR (lineB s)) w) := by
  have hw1 := heap_alloc_new w (.cells #[.int .i64 0, .int .u64 0, .int .u64 0, .int .u64 0, .int .u64 0, .int .u64 0, .int .i64 0, .int .u64 0, .int .u64 0, .slice none 0 0, .slice none 0 0] 30)
  have hb1 := below_new w (.cells #[.int .i64 0, .int .u64 0, .int .u64 0, .int .u64 0, .int .u64 0, .int .u64 0, .int .i64 0, .int .u64 0, .int .u64 0, .slice none 0 0, .slice none 0 0] 30)
  obtain ⟨w1, hw⟩ : ∃ w1, w1 = w.alloc (.cells #[.int .i64 0, .int .u64 0, .int .u64 0, .int .u64 0, .int .u64 0, .int .u64 0, .int .i64 0, .int .u64 0, .int .u64 0, .slice none 0 0, .slice none 0 0] 30) := ⟨_, rfl⟩
  rw [← hw] at hw1 hb1
  obtain ⟨m, hm⟩ := (hE.under hb1 hB).2.2
  have hwE : Hid (∀ W, Below w.heap.size w W → EnvM B W) := fun W hW => hE.under (hW.mono (Nat.le_refl _)) hB
  have CT : Hid (∀ (y : List UInt8), y.length ≤ 1000000 → Calls Tryz.prog 65 #[.string ⟨y.toArray⟩, .string ⟨#[32]⟩] w1 fun e w' => (∃ c1 c2, e = .returned (.tuple #[.string ⟨(ahead 32 y).toArray⟩, .string c1, .bool c2])) ∧ ∃ n, w' = w1.drewN n) := fun y hy => by
    refine (Tryz.strings_Cut ⟨y.toArray⟩ ⟨#[32]⟩ m w1 (by show y.toArray.size < _; simp; omega) hm).mono ?_
    rintro e w' ⟨rfl, n, rfl⟩
    obtain ⟨e1, e2⟩ := cut_one 32 y
    refine ⟨⟨⟨(Lib.cut y [32]).2.1.toArray⟩, (Lib.cut y [32]).2.2, ?_⟩, n, rfl⟩
    show Ending.returned (.tuple #[.string ⟨(Lib.cut y [32]).1.toArray⟩, .string ⟨(Lib.cut y [32]).2.1.toArray⟩, .bool (Lib.cut y [32]).2.2]) = _
    rw [e1]
  have C1 := CT.out s hl
  have hal := (ahead_len 32 s).1
  have hk7 := kindL_le (ahead 32 s)
  have HLB : Hid (lineB s = if kindL (ahead 32 s) = 0 then none else endP (goP (Rc.zero (kindL (ahead 32 s))) (s.drop (ahead 32 s).length) (partsN (kindL (ahead 32 s)) 6))) := rfl
  have HSL : ∀ W, (Instr.slice 9 (.string ⟨s.toArray⟩) (some (.int .i64 ((ahead 32 s).length : Int))) none none).run Tryz.prog W = .ok (.string ⟨(s.drop (ahead 32 s).length).toArray⟩) W := fun W => sl_drop s (ahead 32 s).length hal W
  have hdl : (s.drop (ahead 32 s).length).length ≤ 1000000 := by rw [List.length_drop]; omega
  have KO : Hid (∀ W, Calls Tryz.prog 66 #[.string ⟨(ahead 32 s).toArray⟩] W fun e w' => e = .returned (.int .i64 (kindL (ahead 32 s) : Nat)) ∧ Below W.heap.size W w') := fun W => kindof5_any (ahead 32 s) W
  have hKN : Rc.knownB (kindL (ahead 32 s) : Nat) = decide (kindL (ahead 32 s) ≠ 0) := by unfold Rc.knownB; rw [Bool.eq_iff_iff]; simp; omega
  have BADE : Hid (lineB s = none → ∀ W, Below w.heap.size w W → W.heap[w.heap.size]? = some (.cells #[.int .i64 0, .int .u64 0, .int .u64 0, .int .u64 0, .int .u64 0, .int .u64 0, .int .i64 0, .int .u64 0, .int .u64 0, .slice none 0 0, .slice none 0 0] 30 (0, 0)) →
      RecEnd (ansR (lineB s)) w (.returned (.tuple #[.agg #[.int .i64 0, .int .u64 0, .int .u64 0, .int .u64 0, .int .u64 0, .int .u64 0, .int .i64 0, .int .u64 0, .int .u64 0, .slice none 0 0, .slice none 0 0], .int .i64 50])) (put11 W w.heap.size (.int .i64 0) (.int .u64 0) (.int .u64 0) (.int .u64 0) (.int .u64 0) (.int .u64 0) (.int .i64 0) (.int .u64 0) (.int .u64 0) (.slice none 0 0) (.slice none 0 0)) ∧
      (put11 W w.heap.size (.int .i64 0) (.int .u64 0) (.int .u64 0) (.int .u64 0) (.int .u64 0) (.int .u64 0) (.int .i64 0) (.int .u64 0) (.int .u64 0) (.slice none 0 0) (.slice none 0 0)).heap[w.heap.size]? = some (.cells #[.int .i64 0, .int .u64 0, .int .u64 0, .int .u64 0, .int .u64 0, .int .u64 0, .int .i64 0, .int .u64 0, .int .u64 0, .slice none 0 0, .slice none 0 0] 30 (0, 0))) := fun hn W h1 h2 => by
    refine ⟨?_, put11_row _ _ _ _ _ _ _ _ _ _ _ h2⟩
    rw [hn]
    exact ⟨⟨0, 0, 0, 0, 0, 0, .node 0 0 0 none 0 [], none, 0, []⟩, rfl, abs_zero 0, rlies_zero _ _ _ 0 (by omega), zero_shp _ _ _, World.ownsRow_nil _ _ _ _, h1.trans ((put11_grow _ _ _ _ _ _ _ _ _ _ _ W w.heap.size).below h1.size (Nat.le_refl _) (Nat.le_refl _))⟩
  clear CT hm
  generalize ahead 32 s = nm at *
  generalize s.drop nm.length = lf at *
  generalize kindL nm = k at *
  subst hw
  go_enter Tryz.func31, Tryz.ntmps31
  go_upto_region 1 with (fail)
  generalize w.alloc (.cells #[.int .i64 0, .int .u64 0, .int .u64 0, .int .u64 0, .int .u64 0, .int .u64 0, .int .i64 0, .int .u64 0, .int .u64 0, .slice none 0 0, .slice none 0 0] 30) = w1 at *
  go_wp2_with fail
  refine C1.mono ?_
  rintro e w2 ⟨⟨c1, c2, rfl⟩, q, rfl⟩
  have hw2 : (w1.drewN q).heap[w.heap.size]? = some (.cells #[.int .i64 0, .int .u64 0, .int .u64 0, .int .u64 0, .int .u64 0, .int .u64 0, .int .i64 0, .int .u64 0, .int .u64 0, .slice none 0 0, .slice none 0 0] 30 (0, 0)) := hw1
  have hb2 : Below w.heap.size w (w1.drewN q) := below_drew_ hb1
  clear hw1 hb1 C1
  generalize w1.drewN q = w2 at *
  go_wp2_with fail
  refine (KO.out _).mono ?_
  rintro e w3 ⟨rfl, hb3⟩
  have hw3 := (hb3.block _ (lt_of_block hw2)).trans hw2
  replace hb3 := hb2.trans (hb3.mono hb2.size)
  clear hw2 hb2 KO
  have ha4 := heap_alloc_new w3 (.cells #[.int .i64 (k : Int), .int .u64 0, .int .u64 0, .int .u64 0, .int .u64 0, .int .u64 0, .int .i64 0, .int .u64 0, .int .u64 0, .slice none 0 0, .slice none 0 0] 30)
  have hb4 := below_new w3 (.cells #[.int .i64 (k : Int), .int .u64 0, .int .u64 0, .int .u64 0, .int .u64 0, .int .u64 0, .int .i64 0, .int .u64 0, .int .u64 0, .slice none 0 0, .slice none 0 0] 30)
  have hw4 := (hb4.block _ (lt_of_block hw3)).trans hw3
  have hlw3 := lt_of_block hw3
  replace hb4 := hb3.trans (hb4.mono hb3.size)
  have hs4 : (w3.alloc (.cells #[.int .i64 (k : Int), .int .u64 0, .int .u64 0, .int .u64 0, .int .u64 0, .int .u64 0, .int .i64 0, .int .u64 0, .int .u64 0, .slice none 0 0, .slice none 0 0] 30)).heap.size > w3.heap.size := by simp
  have hbsz := hb3.size
  clear hw3 hb3
  go_upto_region 3 with (fail)
  generalize w3.alloc (.cells #[.int .i64 (k : Int), .int .u64 0, .int .u64 0, .int .u64 0, .int .u64 0, .int .u64 0, .int .i64 0, .int .u64 0, .int .u64 0, .slice none 0 0, .slice none 0 0] 30) = w4 at *
  generalize w3.heap.size = a at *
  have c0 := cell_of_row w4 _ 0 _ _ _ ha4
  simp at c0
  go_wp2_with fail
  refine (known_any k _).mono ?_
  rintro e w5 ⟨rfl, rfl⟩
  rw [hKN]
  by_cases hk0 : k = 0
  · have HN : Hid (lineB s = none) := Lib_hid (by rw [HLB.out, if_pos hk0])
    obtain ⟨HX, HY⟩ := BADE.out HN.out w5 hb4 hw4
    have HXX := Lib_hid HX
    have HYY := Lib_hid HY
    obtain ⟨e0, e1, e2, e3, e4, e5, e6, e7, e8, e9, e10⟩ := rec_cells hw4
    have y := fun i => frozen_of_row w5 w.heap.size i _ _ hw4
    have y0 := y 0
    have y1 := y 1
    have y2 := y 2
    have y3 := y 3
    have y4 := y 4
    have y5 := y 5
    have y6 := y 6
    have y7 := y 7
    have y8 := y 8
    have y9 := y 9
    have y10 := y 10
    clear HX HY BADE HLB y hw4 ha4
    rw [show decide (k ≠ 0) = false by simp [hk0]]
    go_wp2
    show bodyPost _ _ _ _ _ (put11 w5 w.heap.size (.int .i64 0) (.int .u64 0) (.int .u64 0) (.int .u64 0) (.int .u64 0) (.int .u64 0) (.int .i64 0) (.int .u64 0) (.int .u64 0) (.slice none 0 0) (.slice none 0 0))
    generalize put11 w5 w.heap.size (.int .i64 0) (.int .u64 0) (.int .u64 0) (.int .u64 0) (.int .u64 0) (.int .u64 0) (.int .i64 0) (.int .u64 0) (.int .u64 0) (.slice none 0 0) (.slice none 0 0) = W4 at *
    exact line_ret HYY.out HXX.out _ rfl rfl
  · rw [show decide (k ≠ 0) = true by simp [hk0]]
    have hlb : lineB s = endP (goP (Rc.zero (k : Int)) lf (partsN (k : Int) 6)) := by rw [HLB.out, if_neg hk0]
    have HLB2 := Lib_hid hlb
    have hg6 := heap_alloc_new w5 (.cells #[.string ⟨lf.toArray⟩, .bool false] 135)
    have hb6 := below_new w5 (.cells #[.string ⟨lf.toArray⟩, .bool false] 135)
    have hw6 := (hb6.block _ (lt_of_block hw4)).trans hw4
    have ha6 := (hb6.block _ (lt_of_block ha4)).trans ha4
    have hlw5 := lt_of_block ha4
    have hs6 : (w5.alloc (.cells #[.string ⟨lf.toArray⟩, .bool false] 135)).heap.size > w5.heap.size := by simp
    have hbs := hb4.size
    replace hb6 := hb4.trans (hb6.mono hb4.size)
    clear HLB hKN hw4 ha4 hb4 hlb c0
    go_upto_region 6 with (fail)
    generalize w5.alloc (.cells #[.string ⟨lf.toArray⟩, .bool false] 135) = w6 at *
    generalize w5.heap.size = g at *
    have c0 : w6.cell? ⟨a, 0, none⟩ = some (.int .i64 (k : Int)) := cell_of_row w6 _ 0 _ _ _ ha6
    go_wp2_with fail
    refine (partsof_any (k : Int) _).mono ?_
    rintro e w7 ⟨Ap, cp, rfl, hop, hb7⟩
    have hR7 : RdS w6.heap.size a g ⟨k, 0, 0, 0, 0, 0, .node 0 0 0 none 0 [], none, 0, []⟩ lf false w7 :=
      ⟨(hb7.block _ (lt_of_block ha6)).trans ha6, (hb7.block _ (lt_of_block hg6)).trans hg6, rlies_zero _ _ _ _ (by omega), by omega, by omega, by omega, hb7.size, zero_shp _ _ _, World.ownsRow_nil _ _ _ _⟩
    have hw7 := (hb7.block _ (lt_of_block hw6)).trans hw6
    have hb7' := hb6.trans (hb7.mono hb6.size)
    have hs7 := hb7.size
    have HPL : Hid (∀ q, q ∈ partsN (k : Int) 6 → q < 6) := fun q hq => partsN_lt hq
    have hpl := partsN_le (k : Int) 6
    clear hb6 hg6 ha6 hw6 hb7 c0
    have HX : Hid (∀ W, Grow2 w7 W a g → W.heap[w.heap.size]? = some (.cells #[.int .i64 0, .int .u64 0, .int .u64 0, .int .u64 0, .int .u64 0, .int .u64 0, .int .i64 0, .int .u64 0, .int .u64 0, .slice none 0 0, .slice none 0 0] 30 (0, 0)) ∧ Below w.heap.size w W ∧
        W.ownsRow w6.heap.size 102 6 (.slice Ap (partsN (k : Int) 6).length cp) (partsN (k : Int) 6).length (psL (partsN (k : Int) 6))) := fun W hG =>
      ⟨(hG.block _ (by omega) (by omega) (by omega)).trans hw7, hb7'.trans (hG.below hb7'.size (by omega) (by omega)), own_keep hop fun j hj => hG.block j (own_lt hop j hj) (by have := own_ge hop j hj; omega) (by have := own_ge hop j hj; omega)⟩
    have RD : Hid (∀ (q : Nat), q < 6 → ∀ (r : Rv) (l : List UInt8) (bad : Bool) (W : World), RdS w6.heap.size a g r l bad W → Below w.heap.size w W → l.length ≤ 1000000 → Calls Tryz.prog (mreadF q) #[.pointer (some ⟨a, 0, none⟩), .pointer (some ⟨g, 0, none⟩)] W (RdEnd q w6.heap.size a g r l bad W)) := fun q hq r l bad W hR hW hl' =>
      read6_any q hq B w6.heap.size a g r l bad W hR (hwE.out W hW) (by omega) (by omega) hl'
    generalize hpp : partsN (k : Int) 6 = pl at *
    clear hw7 hop
    go_wp2
    go_loopw [34] (fun z wr => ∃ (i : Nat) (r : Rv) (l : List UInt8) (bad : Bool), z = .int .i64 i ∧ i ≤ pl.length ∧ Hid (RdS w6.heap.size a g r l bad wr) ∧ Hid (Grow2 w7 wr a g) ∧ l.length ≤ 1000000 ∧
      Hid ((bad = false ∧ goP (Rc.zero (k : Int)) lf (pl.take i) = some (r.abs, l)) ∨ (bad = true ∧ goP (Rc.zero (k : Int)) lf (pl.take i) = none))) (fun z _ => pl.length - (intOf z).toNat)
    case atStart => exact ⟨0, _, lf, false, rfl, Nat.zero_le _, hR7, Grow2.refl _ _ _, hdl, .inl ⟨rfl, by rw [abs_zero]; rfl⟩⟩
    case round =>
      clear hR7
      obtain ⟨i, r, l, bad, rfl, hi1, hR, hG, hll, hI⟩ := hrel
      obtain ⟨hbx, hbw, hown⟩ := HX.out _ hG.out
      by_cases hlt : i < pl.length
      · obtain ⟨b, off, q, rfl, hq, d0, d1, d2, d3, d4, d5⟩ := ps_nth (Rd.own hown) hlt
        have hq6 := HPL.out q (List.mem_of_getElem? hq)
        have hcp := call_read hq6
        have HTK : Hid (pl.take (i + 1) = pl.take i ++ [q]) := take_one hq
        have hb5 := below_new wr (.cells #[.func (.func (mofF q)) #[] #[], .func (.func (memptyF q)) #[] #[], .func (.func (mputF q)) #[] #[], .func (.func (mtakeF q)) #[] #[], .func (.func (mtellF q)) #[] #[], .func (.func (mreadF q)) #[] #[]] 102)
        have hp5 := heap_alloc_new wr (.cells #[.func (.func (mofF q)) #[] #[], .func (.func (memptyF q)) #[] #[], .func (.func (mputF q)) #[] #[], .func (.func (mtakeF q)) #[] #[], .func (.func (mtellF q)) #[] #[], .func (.func (mreadF q)) #[] #[]] 102)
        have hR5 := hR.out.kept hb5
        have hG5 := hG.out.trans (Grow2.ofB hb5)
        have hb5' := hbw.trans (hb5.mono hbw.size)
        have CP := RD.out q hq6 r l bad _ hR5 hb5' hll
        clear hR hG hbx hbw hown hq6 hb5 hq
        generalize mofF q = f1 at *
        generalize memptyF q = f2 at *
        generalize mputF q = f3 at *
        generalize mtakeF q = f4 at *
        generalize mtellF q = f5 at *
        generalize mreadF q = f6 at *
        go_upto_region 9 with (fail)
        generalize wr.alloc (.cells #[.func (.func f1) #[] #[], .func (.func f2) #[] #[], .func (.func f3) #[] #[], .func (.func f4) #[] #[], .func (.func f5) #[] #[], .func (.func f6) #[] #[]] 102) = w8 at *
        clear d0 d1 d2 d3 d4 d5
        have d5 : w8.cell? ⟨wr.heap.size, 5, none⟩ = some (.func (.func f6) #[] #[]) := cell_of_row w8 _ 5 _ _ _ hp5
        go_wp2_with fail
        refine CP.mono ?_
        rintro e w9 ⟨rfl, hG9, r', l', bad', hR', hk', hl', hb1, hb2⟩
        have HI2 : Hid ((bad' = false ∧ goP (Rc.zero (k : Int)) lf (pl.take (i + 1)) = some (r'.abs, l')) ∨ (bad' = true ∧ goP (Rc.zero (k : Int)) lf (pl.take (i + 1)) = none)) := by
          unfold Hid
          rw [HTK.out, goP_snoc]
          rcases hI.out with ⟨e1, e2⟩ | ⟨e1, e2⟩
          · rw [e2]
            rcases hb2 e1 with ⟨e3, e4⟩ | ⟨e3, e4⟩
            · exact .inl ⟨e4, e3⟩
            · exact .inr ⟨e4, e3⟩
          · rw [e2]
            exact .inr ⟨hb1 e1, rfl⟩
        have HG2 := Lib_hid (hG5.trans hG9)
        have HR2 := Lib_hid hR'
        have hl2 : l'.length ≤ 1000000 := by omega
        clear CP d5 hG9 hR' hb1 hb2 hI hR5 hG5 hb5' hp5
        go_wp2
        go_roundw
        case rel => exact ⟨i + 1, r', l', bad', by go_num, by omega, HR2, HG2, hl2, HI2⟩
        case measure => simp [intOf]; omega
      · obtain rfl : i = pl.length := by omega
        rw [List.take_length] at hI
        have c1 : wr.cell? ⟨g, 1, none⟩ = some (.bool bad) := cell_of_row wr g 1 _ _ _ hR.out.wds
        have c0 : wr.cell? ⟨g, 0, none⟩ = some (.string ⟨l.toArray⟩) := cell_of_row wr g 0 _ _ _ hR.out.wds
        by_cases hgood : bad = false ∧ l = []
        · obtain ⟨hbf, hle⟩ := hgood
          have hlo := hR.out.al
          have hlo2 := hR.out.hi
          have hgp : goP (Rc.zero (k : Int)) lf pl = some (r.abs, l) := by
            rcases hI.out with ⟨_, e2⟩ | ⟨e1, _⟩
            · exact e2
            · rw [hbf] at e1; cases e1
          have HN : Hid (lineB s = some r.abs) := Lib_hid (by rw [HLB2.out, hgp, hle]; rfl)
          have FIN : Hid (RecEnd (ansR (lineB s)) w (.returned (.tuple #[r.val, .int .i64 0])) (put11 wr w.heap.size (.int .i64 r.kind) (.int .u64 (r.t : Int)) (.int .u64 (r.x : Int)) (.int .u64 (r.w : Int)) (.int .u64 (r.n : Int)) (.int .u64 (r.v : Int)) (.int .i64 r.p.kind) (.int .u64 (r.p.a : Int)) (.int .u64 (r.p.b : Int)) r.p.sl r.sl)) := by
            have hGG := put11_grow (.int .i64 r.kind) (.int .u64 (r.t : Int)) (.int .u64 (r.x : Int)) (.int .u64 (r.w : Int)) (.int .u64 (r.n : Int)) (.int .u64 (r.v : Int)) (.int .i64 r.p.kind) (.int .u64 (r.p.a : Int)) (.int .u64 (r.p.b : Int)) r.p.sl r.sl wr (g := w.heap.size) w.heap.size
            rw [HN.out]
            exact ⟨r, rfl, rfl, (hR.out.lies.grow2 hGG (by omega) (by omega) (Nat.le_refl _)).more (by omega) (Nat.le_refl _), (hR.out.shp.keep fun j h1 h2 => hGG.block j h2 (by omega) (by omega)).more (by omega),
              own_base (own_keep hR.out.own fun j hj => hGG.block j (own_lt hR.out.own j hj) (by have := own_ge hR.out.own j hj; omega) (by have := own_ge hR.out.own j hj; omega)) (fun j hj => by have := own_ge hR.out.own j hj; omega),
              hbw.trans (hGG.below hbw.size (Nat.le_refl _) (Nat.le_refl _))⟩
          have hax := hR.out.box
          clear HN hgp hI BADE HX hR hG hown HLB2 RD
          subst hbf hle
          obtain ⟨k', t, x, wn, nn, v, p, A, c, es⟩ := r
          simp only [Rv.arr, Rv.val, Rv.sl, V.sl] at hax FIN
          have HB2 : Hid ((put11 wr w.heap.size (.int .i64 k') (.int .u64 (t : Int)) (.int .u64 (x : Int)) (.int .u64 (wn : Int)) (.int .u64 (nn : Int)) (.int .u64 (v : Int)) (.int .i64 p.kind) (.int .u64 (p.a : Int)) (.int .u64 (p.b : Int)) (.slice p.addr p.parts.length p.cap) (.slice A es.length c)).heap[w.heap.size]? = some (.cells #[.int .i64 k', .int .u64 (t : Int), .int .u64 (x : Int), .int .u64 (wn : Int), .int .u64 (nn : Int), .int .u64 (v : Int), .int .i64 p.kind, .int .u64 (p.a : Int), .int .u64 (p.b : Int), .slice p.addr p.parts.length p.cap, .slice A es.length c] 30 (0, 0))) := put11_row _ _ _ _ _ _ _ _ _ _ _ hbx
          obtain ⟨d0, d1, d2, d3, d4, d5, d6, d7, d8, d9, d10⟩ := rec_cells hax
          obtain ⟨e0, e1, e2, e3, e4, e5, e6, e7, e8, e9, e10⟩ := rec_cells hbx
          have y := fun i => frozen_of_row wr w.heap.size i _ _ hbx
          have y0 := y 0
          have y1 := y 1
          have y2 := y 2
          have y3 := y 3
          have y4 := y 4
          have y5 := y 5
          have y6 := y 6
          have y7 := y 7
          have y8 := y 8
          have y9 := y 9
          have y10 := y 10
          clear y hbx hax hbw
          generalize p.addr = pA at *
          generalize p.parts.length = pn at *
          generalize p.cap = pc at *
          generalize p.kind = pk at *
          generalize (p.a : Int) = pa at *
          generalize (p.b : Int) = pb at *
          generalize es.length = en at *
          go_wp2
          show bodyPost _ _ _ _ _ (put11 wr w.heap.size (.int .i64 k') (.int .u64 (t : Int)) (.int .u64 (x : Int)) (.int .u64 (wn : Int)) (.int .u64 (nn : Int)) (.int .u64 (v : Int)) (.int .i64 pk) (.int .u64 pa) (.int .u64 pb) (.slice pA pn pc) (.slice A en c))
          generalize put11 wr w.heap.size (.int .i64 k') (.int .u64 (t : Int)) (.int .u64 (x : Int)) (.int .u64 (wn : Int)) (.int .u64 (nn : Int)) (.int .u64 (v : Int)) (.int .i64 pk) (.int .u64 pa) (.int .u64 pb) (.slice pA pn pc) (.slice A en c) = W4 at *
          exact line_ret HB2.out FIN.out _ rfl rfl
        · have HN : Hid (lineB s = none) := Lib_hid (by
            rw [HLB2.out]
            rcases hI.out with ⟨e1, e2⟩ | ⟨_, e2⟩
            · rw [e2]
              cases l with
              | nil => exact absurd ⟨e1, rfl⟩ hgood
              | cons b l => rfl
            · rw [e2]; rfl)
          obtain ⟨HX2, HY2⟩ := BADE.out HN.out wr hbw hbx
          have HXX := Lib_hid HX2
          have HYY := Lib_hid HY2
          obtain ⟨e0, e1, e2, e3, e4, e5, e6, e7, e8, e9, e10⟩ := rec_cells hbx
          have y := fun i => frozen_of_row wr w.heap.size i _ _ hbx
          have y0 := y 0
          have y1 := y 1
          have y2 := y 2
          have y3 := y 3
          have y4 := y 4
          have y5 := y 5
          have y6 := y 6
          have y7 := y 7
          have y8 := y 8
          have y9 := y 9
          have y10 := y 10
          clear HX2 HY2 BADE HX hR hG hown HLB2 RD HN hI y hbx hbw
          cases bad with
          | true =>
            clear hgood
            go_wp2
            show bodyPost _ _ _ _ _ (put11 wr w.heap.size (.int .i64 0) (.int .u64 0) (.int .u64 0) (.int .u64 0) (.int .u64 0) (.int .u64 0) (.int .i64 0) (.int .u64 0) (.int .u64 0) (.slice none 0 0) (.slice none 0 0))
            generalize put11 wr w.heap.size (.int .i64 0) (.int .u64 0) (.int .u64 0) (.int .u64 0) (.int .u64 0) (.int .u64 0) (.int .i64 0) (.int .u64 0) (.int .u64 0) (.slice none 0 0) (.slice none 0 0) = W4 at *
            exact line_ret HYY.out HXX.out _ rfl rfl
          | false =>
            have hne : (l == []) = false := by cases l with
              | nil => exact absurd ⟨rfl, rfl⟩ hgood
              | cons b l => rfl
            clear hgood
            go_wp2
            show bodyPost _ _ _ _ _ (put11 wr w.heap.size (.int .i64 0) (.int .u64 0) (.int .u64 0) (.int .u64 0) (.int .u64 0) (.int .u64 0) (.int .i64 0) (.int .u64 0) (.int .u64 0) (.slice none 0 0) (.slice none 0 0))
            generalize put11 wr w.heap.size (.int .i64 0) (.int .u64 0) (.int .u64 0) (.int .u64 0) (.int .u64 0) (.int .u64 0) (.int .i64 0) (.int .u64 0) (.int .u64 0) (.slice none 0 0) (.slice none 0 0) = W4 at *
            exact line_ret HYY.out HXX.out _ rfl rfl
end Go.Proofs.YtiiiklenhmhccaaGreatDoor

namespace Go.Proofs.YtiiiklenhmhccaaGreatDoor
open Go Go.RowKit
set_option linter.unusedVariables false
structure Spo (E : TypeId) (lo hi : Nat) (w w' : World) : Prop where
  shp : ∀ (lo' : Nat) (u : V), Shp E w lo' u → Shp E w' lo' u
  below : Below lo w w'
  keep : ∀ k, k < w.heap.size → (k < lo ∨ hi ≤ k) → w'.heap[k]? = w.heap[k]?
theorem Spo.refl (E : TypeId) (lo hi : Nat) (w : World) : Spo E lo hi w w := ⟨fun _ _ h => h, Below.refl _ _, fun _ _ _ => rfl⟩
theorem Spo.trans {E : TypeId} {lo hi : Nat} {a b c : World} (h : Spo E lo hi a b) (k : Spo E lo hi b c) : Spo E lo hi a c :=
  ⟨fun l u x => k.shp l u (h.shp l u x), h.below.trans k.below, fun i hi' ho => (k.keep i (Nat.lt_of_lt_of_le hi' h.below.size) ho).trans (h.keep i hi' ho)⟩
theorem Spo.new (E : TypeId) {lo hi : Nat} {w w' : World} (h : Below w.heap.size w w') (hl : lo ≤ w.heap.size) : Spo E lo hi w w' :=
  ⟨fun _ _ x => x.under h, h.mono hl, fun k hk _ => h.block k hk⟩
theorem Spo.over {E : TypeId} {lo hi : Nat} {a w : World} (h : Spo E lo hi a w) {g i : Nat} {x : Value} (h1 : lo ≤ g) (h2 : g < hi) (hx : (∃ j, i = j * 4 ∧ ∃ z, x = .int .i64 z) ∨ (∃ j, i = j * 4 + 1 ∧ ∃ z, x = .int .u64 z)) : Spo E lo hi a (w.setCell ⟨g, i, none⟩ x) :=
  ⟨fun l u k => (h.shp l u k).over hx, h.below.setCell (p := ⟨g, i, none⟩) h1 x, fun k hk ho => (Below.heap_setCell w ⟨g, i, none⟩ x k (by show k ≠ g; omega)).trans (h.keep k hk ho)⟩
theorem Spo.drew {E : TypeId} {lo hi : Nat} {a w : World} (h : Spo E lo hi a w) : Spo E lo hi a w.drew :=
  ⟨fun l u k => (h.shp l u k).keep fun _ _ _ => rfl, h.below.drew, h.keep⟩
set_option maxRecDepth 100000 in
set_option maxHeartbeats 1600000 in
theorem spoil_expr : ∀ (v : V) (w0 w : World) (lo : Nat) (x y z : Int), Shp 27 w0 lo v → Shp 27 w lo v → w0.heap.size ≤ w.heap.size → lo ≤ w.heap.size → v.abs.count ≤ 1000 →
    Calls Tryz.prog 57 #[.agg #[.int .i64 x, .int .u64 y, .int .u64 z, v.sl]] w fun e w' => e = .returned (.tuple #[]) ∧ Spo 27 lo w0.heap.size w w' := by
  refine V.ind fun k a b A c ps ih w0 w lo x y z h0 hS hw0 hlo hct => ?_
  have hlc : ps.length ≤ 1000 := by
    rw [V.count_node] at hct
    have := length_le_countL (V.absL ps)
    rw [absL_length] at this
    omega
  have IH : Hid (∀ (i : Nat) (p : V), ps[i]? = some p → ∀ (W : World) (x y z : Int), Spo 27 lo w0.heap.size w W → Calls Tryz.prog 57 #[.agg #[.int .i64 x, .int .u64 y, .int .u64 z, p.sl]] W fun e w' => e = .returned (.tuple #[]) ∧ Spo 27 lo w0.heap.size W w') := fun i p hp W x y z hW => by
    have hm := List.mem_of_getElem? hp
    refine ih p hm w0 W lo x y z (h0.part hm) (hW.shp _ _ (hS.part hm)) (Nat.le_trans hw0 hW.below.size) (Nat.le_trans hlo hW.below.size) ?_
    have := count_le hp
    rw [V.count_node] at hct
    omega
  have HS : Hid (∀ W, Spo 27 lo w0.heap.size w W → Shp 27 W lo (V.node k a b A c ps)) := fun W hW => hW.shp _ _ hS
  have H0 := Lib_hid h0
  have hbx := heap_alloc_new w (.cells #[.int .i64 x, .int .u64 y, .int .u64 z, .slice A ps.length c] 27)
  have hb0 : Spo 27 lo w0.heap.size w (w.alloc (.cells #[.int .i64 x, .int .u64 y, .int .u64 z, .slice A ps.length c] 27)) := Spo.new _ (below_new w _) hlo
  clear ih hS hct h0
  show Calls Tryz.prog 57 #[.agg #[.int .i64 x, .int .u64 y, .int .u64 z, .slice A ps.length c]] w _
  go_enter Tryz.func57, Tryz.ntmps57
  go_wp2
  go_loopw [2] (fun t wr => ∃ (i : Nat), t = .int .i64 i ∧ i ≤ ps.length ∧ wr.heap[w.heap.size]? = some (.cells #[.int .i64 x, .int .u64 y, .int .u64 z, .slice A ps.length c] 27 (0, 0)) ∧ Spo 27 lo w0.heap.size w wr) (fun t _ => ps.length - (intOf t).toNat)
  case atStart => exact ⟨0, rfl, Nat.zero_le _, hbx, hb0⟩
  case round =>
    clear hbx hb0
    obtain ⟨i, rfl, hi1, hbx, hsp⟩ := hrel
    have c3 : wr.cell? ⟨w.heap.size, 3, none⟩ = some (.slice A ps.length c) := cell_of_row wr _ 3 _ _ _ hbx
    have hgl := (Array.getElem?_eq_some_iff.1 hbx).1
    by_cases hlt : i < ps.length
    · obtain ⟨p, hp⟩ : ∃ p, ps[i]? = some p := ⟨_, List.getElem?_eq_getElem hlt⟩
      obtain ⟨g, rfl, hg1, hg2, -⟩ := H0.out.nth hp
      obtain ⟨g', e, -, hgw, -, -, ⟨x0, d0⟩, ⟨x1, d1⟩, ⟨x2, d2⟩, d3⟩ := (HS.out wr hsp).nth hp
      injection e with e
      injection e with e
      subst e
      have CH := IH.out i p hp wr x0 x1 x2 hsp
      have HP := Lib_hid hp
      have hps : p.sl = .slice p.addr p.parts.length p.cap := rfl
      rw [hps] at d3 CH
      clear hp hps
      generalize p.addr = pA at *
      generalize p.cap = pc at *
      generalize p.parts.length = pn at *
      go_wp2_with fail
      refine CH.mono ?_
      rintro e w1 ⟨rfl, hsp1⟩
      have hsp2 := hsp.trans hsp1
      have hbx1 := (hsp1.keep _ hgl (.inr hw0)).trans hbx
      have hgl1 := (Array.getElem?_eq_some_iff.1 hbx1).1
      have c31 : w1.cell? ⟨w.heap.size, 3, none⟩ = some (.slice (some ⟨g, 0, none⟩) ps.length c) := cell_of_row w1 _ 3 _ _ _ hbx1
      obtain ⟨g', e, -, hgw1, -, hfr, ⟨y0, f0⟩, ⟨y1, f1⟩, -, -⟩ := (HS.out w1 hsp2).nth HP.out
      injection e with e
      injection e with e
      subst e
      have z0 := hfr (i * 4)
      have z1 := hfr (i * 4 + 1)
      have hne : w.heap.size ≠ g := by omega
      clear CH hsp hsp1 hbx hgl c3 d0 d1 d2 d3 hfr
      have hsp3 := hsp2.over (x := .int .i64 77) hg1 hg2 (.inl ⟨i, rfl, 77, rfl⟩)
      go_upto_region 6 with (fail)
      have hg3 := HS.out _ hsp3
      have hbx3 : (w1.setCell ⟨g, i * 4, none⟩ (.int .i64 77)).heap[w.heap.size]? = _ := (Below.heap_setCell w1 ⟨g, i * 4, none⟩ (.int .i64 77) w.heap.size hne).trans hbx1
      clear hbx1 c31 hgl1 hgw1 f0 f1 z0 z1 hsp2
      generalize w1.setCell ⟨g, i * 4, none⟩ (.int .i64 77) = w2 at *
      have c32 : w2.cell? ⟨w.heap.size, 3, none⟩ = some (.slice (some ⟨g, 0, none⟩) ps.length c) := cell_of_row w2 _ 3 _ _ _ hbx3
      obtain ⟨g', e, -, hgw2, -, hfr, -, ⟨y2, f2⟩, -, -⟩ := hg3.nth HP.out
      injection e with e
      injection e with e
      subst e
      have z2 := hfr (i * 4 + 1)
      have hsp4 := hsp3.over (x := .int .u64 (IntKind.u64.wrap (y2 + 7))) hg1 hg2 (.inr ⟨i, rfl, _, rfl⟩)
      have hbx4 : (w2.setCell ⟨g, i * 4 + 1, none⟩ (.int .u64 (IntKind.u64.wrap (y2 + 7)))).heap[w.heap.size]? = _ := (Below.heap_setCell w2 ⟨g, i * 4 + 1, none⟩ (.int .u64 (IntKind.u64.wrap (y2 + 7))) w.heap.size hne).trans hbx3
      clear hfr hg3 hbx3 hsp3
      go_region
      have hsp5 := hsp4.drew
      have hbx5 : (w2.setCell ⟨g, i * 4 + 1, none⟩ (.int .u64 (IntKind.u64.wrap (y2 + 7)))).drew.heap[w.heap.size]? = _ := hbx4
      clear hbx4 hsp4
      generalize IntKind.u64.wrap (y2 + 7) = y3 at *
      generalize (w2.setCell ⟨g, i * 4 + 1, none⟩ (.int .u64 y3)).drew = w9 at *
      go_wp2
      go_roundw
      case rel => exact ⟨i + 1, by go_num, by omega, hbx5, hsp5⟩
      case measure => simp [intOf]; omega
    · obtain rfl : i = ps.length := by omega
      go_wp2
      go_end0
      exact ⟨rfl, hsp⟩
end Go.Proofs.YtiiiklenhmhccaaGreatDoor

namespace Go.Proofs.YtiiiklenhmhccaaGreatDoor
open Go Go.RowKit
set_option linter.unusedVariables false
def TreeEnd (t : T) (w : World) (e : Ending) (w' : World) : Prop :=
  ∃ u : V, e = .returned u.val ∧ u.abs = t ∧ Lies w' w.heap.size w'.heap.size u ∧ Shp 27 w' w.heap.size u ∧ Below w.heap.size w w'
set_option maxRecDepth 100000 in
set_option maxHeartbeats 1600000 in
theorem both_any (A : Option Addr) (c : Nat) (ps : List V) (w : World) (lo hi : Nat) (hL : Lies w lo hi (.node 0 0 0 A c ps)) (hhi : hi ≤ w.heap.size) (hct : T.countL (V.absL ps) ≤ 900) :
    Calls Tryz.prog 52 #[.slice A ps.length c] w (TreeEnd (.node 6 0 0 (V.absL ps)) w) := by
  have hb0 := below_new w (.cells #[.int .i64 0, .int .u64 0, .int .u64 0, .slice none 0 0] 27)
  have hbx := heap_alloc_new w (.cells #[.int .i64 0, .int .u64 0, .int .u64 0, .slice none 0 0] 27)
  have CH := copies_any _ _ lo hi (hL.under (hb0.mono hhi)) (Nat.le_trans hhi hb0.size) (by rw [V.count_node]; omega)
  have hsz : (w.alloc (.cells #[.int .i64 0, .int .u64 0, .int .u64 0, .slice none 0 0] 27)).heap.size = w.heap.size + 1 := by simp
  simp only [V.sl, V.addr, V.parts, V.cap] at CH
  clear hL
  go_enter Tryz.func52, Tryz.ntmps52
  go_wp2_with fail
  refine CH.mono ?_
  rintro e w1 ⟨A1, c1, us, rfl, hul, hua, huL, ho, hb1, huS⟩
  rw [hsz] at huL ho hb1 huS
  have hbx1 := (hb1.block _ (by omega)).trans hbx
  have hgl := (Array.getElem?_eq_some_iff.1 hbx1).1
  have hbw := hb0.trans (hb1.mono (by omega))
  have hcp := own_cap ho
  have hrow := put4_row hbx1 (.int .i64 6) (.int .u64 0) (.int .u64 0) (.slice A1 us.length c1)
  have hbz := put4_below hbw (Nat.le_refl _) (.int .i64 6) (.int .u64 0) (.int .u64 0) (.slice A1 us.length c1)
  have hse := put4_size w1 w.heap.size (.int .i64 6) (.int .u64 0) (.int .u64 0) (.slice A1 us.length c1)
  have hu : ∀ u ∈ us, Lies (put4 w1 w.heap.size (.int .i64 6) (.int .u64 0) (.int .u64 0) (.slice A1 us.length c1)) (w.heap.size + 1) w1.heap.size u ∧ Shp 27 (put4 w1 w.heap.size (.int .i64 6) (.int .u64 0) (.int .u64 0) (.slice A1 us.length c1)) (w.heap.size + 1) u := fun u hm =>
    ⟨(huL u hm).keep fun p h1 _ => World.cell?_of_block (put4_else w1 (by omega) _ _ _ _), (huS u hm).keep fun g h1 _ => put4_else w1 (by omega) _ _ _ _⟩
  have hob : (put4 w1 w.heap.size (.int .i64 6) (.int .u64 0) (.int .u64 0) (.slice A1 us.length c1)).ownsRow (w.heap.size + 1) 27 4 (.slice A1 us.length c1) us.length (vCells us) :=
    own_keep ho fun j hj => put4_else w1 (by have := own_ge ho j hj; omega) _ _ _ _
  have HF : Hid (TreeEnd (.node 6 0 0 (V.absL ps)) w (.returned (.agg #[.int .i64 6, .int .u64 0, .int .u64 0, .slice A1 us.length c1])) (put4 w1 w.heap.size (.int .i64 6) (.int .u64 0) (.int .u64 0) (.slice A1 us.length c1))) := by
    refine ⟨.node 6 0 0 A1 c1 us, rfl, by rw [V.abs, hua], ?_, Shp.own (base := w.heap.size + 1) _ _ _ hob (by omega) (fun u hm => (hu u hm).2.more (by omega)), hbz⟩
    rw [hse]
    refine .mk _ _ _ _ _ _ (by omega) (by omega) (by omega) (by have := Rd.own hob; rw [hse] at this; exact this) hcp (fun ad e hn => ?_) (fun q hq => (hu q hq).1.more (by omega) (Nat.le_refl _))
    subst e
    obtain ⟨g2, cap2, hv2, _, _⟩ := ho.form hn
    injection hv2 with e2
    injection e2 with e2
    subst e2
    have := own_ge ho g2 rfl
    show w.heap.size ≤ g2
    omega
  have HR : Hid ((put4 w1 w.heap.size (.int .i64 6) (.int .u64 0) (.int .u64 0) (.slice A1 us.length c1)).heap[w.heap.size]? = _) := hrow
  have c0 : w1.cell? ⟨w.heap.size, 0, none⟩ = some (.int .i64 0) := cell_of_row w1 _ 0 _ _ _ hbx1
  have c1' : w1.cell? ⟨w.heap.size, 1, none⟩ = some (.int .u64 0) := cell_of_row w1 _ 1 _ _ _ hbx1
  have c2 : w1.cell? ⟨w.heap.size, 2, none⟩ = some (.int .u64 0) := cell_of_row w1 _ 2 _ _ _ hbx1
  have c3 : w1.cell? ⟨w.heap.size, 3, none⟩ = some (.slice none 0 0) := cell_of_row w1 _ 3 _ _ _ hbx1
  have z0 := frozen_of_row w1 w.heap.size 0 _ _ hbx1
  have z1 := frozen_of_row w1 w.heap.size 1 _ _ hbx1
  have z2 := frozen_of_row w1 w.heap.size 2 _ _ hbx1
  have z3 := frozen_of_row w1 w.heap.size 3 _ _ hbx1
  clear CH hb1 hb0 hbx hsz hu hob hse hbz hrow hbx1 hul hua huL huS ho hbw hcp
  generalize us.length = n at *
  go_wp2_with fail
  show bodyPost _ _ _ _ _ (put4 w1 w.heap.size (.int .i64 6) (.int .u64 0) (.int .u64 0) (.slice A1 n c1))
  have HR2 := HR.out
  have HF2 := HF.out
  clear HR HF c0 c1' c2 c3 z0 z1 z2 z3
  generalize put4 w1 w.heap.size (.int .i64 6) (.int .u64 0) (.int .u64 0) (.slice A1 n c1) = W at *
  have d0 : W.cell? ⟨w.heap.size, 0, none⟩ = some (.int .i64 6) := cell_of_row W _ 0 _ _ _ HR2
  have d1 : W.cell? ⟨w.heap.size, 1, none⟩ = some (.int .u64 0) := cell_of_row W _ 1 _ _ _ HR2
  have d2 : W.cell? ⟨w.heap.size, 2, none⟩ = some (.int .u64 0) := cell_of_row W _ 2 _ _ _ HR2
  have d3 : W.cell? ⟨w.heap.size, 3, none⟩ = some (.slice A1 n c1) := cell_of_row W _ 3 _ _ _ HR2
  exact bodyPost_ret (v := .agg #[.int .i64 6, .int .u64 0, .int .u64 0, .slice A1 n c1]) (by simp [results, Tryz.results52, go_sem, d0, d1, d2, d3]) rfl HF2
end Go.Proofs.YtiiiklenhmhccaaGreatDoor
