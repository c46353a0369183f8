/-
  Layer 8: the statements' does: an act that is none.
-/
import Derived.Test.YtiembenkdldklaaDoorYad
namespace Go.Proofs.YtiembenkdldklaaDoor
open Go Go.RowKit
set_option linter.unusedVariables false

set_option maxRecDepth 100000 in
set_option maxHeartbeats 4000000 in
theorem does_none (lo hi p B n m c c2 : Nat) (d i z : Int) (Al Am : Option Addr) (own : Bool) (v : Value) (l : List Bool) (w : World) (hd : d ≠ 0 ∧ d ≠ 1 ∧ d ≠ 2 ∧ d ≠ 3 ∧ d ≠ 4 ∧ d ≠ 5) (h : BZ w lo hi p l) (hhi : hi ≤ w.heap.size) (hs : DS w B v l) (hB : B ≤ w.heap.size) (hap : Ap lo hi v) :
    Calls Tryd.prog 17 #[pv p, v, .agg #[.int .i64 d, .int .i64 i, .int .i64 z, .slice Al n c, .slice Am m c2, .bool own]] w (DoesEnd lo hi p v l w) := by
  have hds := hs
  obtain ⟨A, cc, rfl, hr, hc, hle⟩ := hs
  obtain ⟨W, hW, hsz, hb, y0, y1, y2⟩ := three_blocks w (.slice A l.length cc) #[.int .i64 d, .int .i64 i, .int .i64 z, .slice Al n c, .slice Am m c2, .bool own] 33 39
  have c0 := cell_of_row _ _ 0 _ _ _ y0
  have c2' := cell_of_row _ _ 0 _ _ _ y1
  have f2 : W.frozen? ⟨w.heap.size + 1 + 1, 0, none⟩ = false := frozen_of_row _ _ 0 _ _ y2
  have e2 : W.cell? ⟨w.heap.size + 1 + 1, 0, none⟩ = some (.slice none 0 0) := cell_of_row _ _ 0 _ _ _ y2
  have HE := Lib_hid (mid_end (v := .agg #[.slice A l.length cc]) hb hhi y2 ((hds.below (hb.mono hB)).more (by omega)) hap (.inl rfl) (Turns.refl _ _) (h.below hb hhi))
  have q5 : (W.setCell ⟨w.heap.size + 1 + 1, 0, none⟩ (.slice A l.length cc)).cell? ⟨w.heap.size + 1 + 1, 0, none⟩ = some (.slice A l.length cc) := World.cell?_setCell_same' _ _ _ (by rw [e2]; rfl)
  have HW := Lib_hid hW
  obtain ⟨h0, h1, h2, h3, h4, h5⟩ := hd
  have d0 : (d == 0) = false := by simp [h0]
  have d1 : (d == 1) = false := by simp [h1]
  have d2 : (d == 2) = false := by simp [h2]
  have d3 : (d == 3) = false := by simp [h3]
  have d4 : (d == 4) = false := by simp [h4]
  have d5 : (d == 5) = false := by simp [h5]
  clear hW hds hr hc hle h y0 y1 y2 hb hsz hap h0 h1 h2 h3 h4 h5
  go_enter Tryd.func17, Tryd.ntmps17
  go_upto_region 1 with (fail)
  rw [← HW.out]
  go_wp2
  exact bodyPost_ret (v := .tuple #[.agg #[.slice A l.length cc], .bool true]) (by simp [results, Tryd.results17, go_sem, q5]) rfl HE.out

end Go.Proofs.YtiembenkdldklaaDoor
