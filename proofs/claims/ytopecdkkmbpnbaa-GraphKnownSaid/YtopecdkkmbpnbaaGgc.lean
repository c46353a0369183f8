/-
  Layer 13: the program's order of edges (Cmp), and the library's compare under it.
-/
import Derived.Test.YtopecdkkmbpnbaaGmb
import Derived.Sort.Grow
import Derived.Deep.RegionHeld3
import Derived.Deep.RegionLaw
import Derived.Deep.Cut
import Derived.Deep.CutBlock
namespace Go.Proofs.Ytopecdkkmbpnbaa
open Go Go.RowKit Go.Sort
set_option linter.unusedVariables false

/-- How two numbers compare. -/
def cmpZ (x y : Int) : Int := if x < y then -1 else if y < x then 1 else 0
/-- The first that is not 0. -/
def or3 (a b c : Int) : Int := if a = 0 then (if b = 0 then c else b) else a
theorem cmpE_or (a b : Ed) : cmpE a b = or3 (cmpZ a.1 b.1) (cmpZ a.2.1 b.2.1) (cmpZ a.2.2 b.2.2) := by
  by_cases h1 : a.1 < b.1
  · have n : ltE a b := .inl h1
    simp [cmpE, n, or3, cmpZ, h1]
  · by_cases h2 : b.1 < a.1
    · have n : ¬ ltE a b := by unfold ltE; omega
      have m : ltE b a := .inl h2
      simp [cmpE, n, m, or3, cmpZ, h1, h2]
    · by_cases h3 : a.2.1 < b.2.1
      · have n : ltE a b := by unfold ltE; omega
        simp [cmpE, n, or3, cmpZ, h1, h2, h3]
      · by_cases h4 : b.2.1 < a.2.1
        · have n : ¬ ltE a b := by unfold ltE; omega
          have m : ltE b a := by unfold ltE; omega
          simp [cmpE, n, m, or3, cmpZ, h1, h2, h3, h4]
        · by_cases h5 : a.2.2 < b.2.2
          · have n : ltE a b := by unfold ltE; omega
            simp [cmpE, n, or3, cmpZ, h1, h2, h3, h4, h5]
          · by_cases h6 : b.2.2 < a.2.2
            · have n : ¬ ltE a b := by unfold ltE; omega
              have m : ltE b a := by unfold ltE; omega
              simp [cmpE, n, m, or3, cmpZ, h1, h2, h3, h4, h5, h6]
            · have n : ¬ ltE a b := by unfold ltE; omega
              have m : ¬ ltE b a := by unfold ltE; omega
              simp [cmpE, n, m, or3, cmpZ, h1, h2, h3, h4, h5, h6]

/-- A step that draws, and lays new blocks; no more. -/
def Gr (w w' : World) : Prop := ∃ q os, w' = grow (w.drewN q) os
theorem Gr.refl (w : World) : Gr w w := ⟨0, #[], by rw [grow_empty]; rfl⟩
theorem Gr.trans {a b c : World} (h : Gr a b) (k : Gr b c) : Gr a c := by
  obtain ⟨q, os, rfl⟩ := h
  obtain ⟨q', os', rfl⟩ := k
  refine ⟨q + q', os ++ os', ?_⟩
  rw [← grow_grow]
  unfold grow World.drewN
  simp [Nat.add_assoc]
theorem Gr.drewN (w : World) (q : Nat) : Gr w (w.drewN q) := ⟨q, #[], by rw [grow_empty]⟩
theorem Gr.drew (w : World) : Gr w w.drew := Gr.drewN w 1
theorem Gr.alloc (w : World) (o : Obj) : Gr w (w.alloc o) := ⟨0, #[o], by rw [alloc_eq_grow]; rfl⟩
theorem Gr.below {w w' : World} (h : Gr w w') : RowKit.Below w.heap.size w w' := by
  obtain ⟨q, os, rfl⟩ := h
  exact ⟨rfl, rfl, rfl, by rw [size_grow]; exact Nat.le_add_right _ _, fun k hk => heap_grow_old (w.drewN q) os hk⟩
theorem below_drew1 (w : World) : RowKit.Below w.heap.size w w.drew := ⟨rfl, rfl, rfl, Nat.le_refl _, fun _ _ => rfl⟩

theorem znan_any (y : Int) (w : World) : Calls Try.prog 59 #[.int .i64 y] w fun e w' => e = .returned (.bool false) ∧ w = w' := by
  have d : (y != y) = false := by simp
  go_enter Try.func59, Try.ntmps59
  go_wp2
  go_ret
  exact ⟨rfl, rfl⟩

theorem zcmp_any (x y : Int) (w : World) : Calls Try.prog 53 #[.int .i64 x, .int .i64 y] w fun e w' => e = .returned (.int .i64 (cmpZ x y)) ∧ w = w' := by
  have HN := Lib_hid (fun (z : Int) (W : World) => znan_any z W)
  unfold cmpZ
  by_cases h1 : x < y
  · rw [if_pos h1]
    have d1 : decide (x < y) = true := decide_eq_true h1
    go_enter Try.func53, Try.ntmps53
    go_wp2_with fail
    refine (HN.out x _).mono ?_
    rintro e w1 ⟨rfl, rfl⟩
    go_wp2_with fail
    refine (HN.out y _).mono ?_
    rintro e w1 ⟨rfl, rfl⟩
    go_wp2
    go_ret
    exact ⟨rfl, rfl⟩
  · rw [if_neg h1]
    have d1 : decide (x < y) = false := decide_eq_false h1
    by_cases h2 : y < x
    · rw [if_pos h2]
      have d2 : decide (y < x) = true := decide_eq_true h2
      clear h1 h2
      go_enter Try.func53, Try.ntmps53
      go_wp2_with fail
      refine (HN.out x _).mono ?_
      rintro e w1 ⟨rfl, rfl⟩
      go_wp2_with fail
      refine (HN.out y _).mono ?_
      rintro e w1 ⟨rfl, rfl⟩
      go_wp2
      go_ret
      exact ⟨rfl, rfl⟩
    · rw [if_neg h2]
      have d2 : decide (y < x) = false := decide_eq_false h2
      clear h1 h2
      go_enter Try.func53, Try.ntmps53
      go_wp2_with fail
      refine (HN.out x _).mono ?_
      rintro e w1 ⟨rfl, rfl⟩
      go_wp2_with fail
      refine (HN.out y _).mono ?_
      rintro e w1 ⟨rfl, rfl⟩
      go_wp2
      go_ret
      exact ⟨rfl, rfl⟩

theorem zor_any (a b c : Int) (g : Nat) (w : World) (k0 : w.cell? ⟨g, 0, none⟩ = some (.int .i64 a)) (k1 : w.cell? ⟨g, 1, none⟩ = some (.int .i64 b)) (k2 : w.cell? ⟨g, 2, none⟩ = some (.int .i64 c)) :
    Calls Try.prog 52 #[.slice (some ⟨g, 0, none⟩) 3 3] w fun e w' => e = .returned (.int .i64 (or3 a b c)) ∧ w = w' := by
  obtain ⟨r, hr⟩ : ∃ r, r = or3 a b c := ⟨_, rfl⟩
  rw [← hr]
  have HR := Lib_hid hr
  clear hr
  go_enter Try.func52, Try.ntmps52
  go_wp2
  go_loop [8] (fun x => ∃ k : Nat, x = .int .i64 k ∧ k ≤ 3 ∧ Hid ((1 ≤ k → a = 0) ∧ (2 ≤ k → b = 0) ∧ (3 ≤ k → c = 0))) (fun x => 3 - (intOf x).toNat)
  case atStart => exact ⟨0, rfl, by omega, (fun h => absurd h (by omega)), (fun h => absurd h (by omega)), (fun h => absurd h (by omega))⟩
  case round =>
    obtain ⟨k, rfl, hk, hh⟩ := hrel
    have hkc : k = 0 ∨ k = 1 ∨ k = 2 ∨ k = 3 := by omega
    rcases hkc with rfl | rfl | rfl | rfl
    · clear hk
      by_cases hv : a = 0
      · have HV := Lib_hid hv
        have hd : (a != 0) = false := by simpa using hv
        clear hv hh
        go_wp2
        go_round
        case rel => exact ⟨1, by go_num, by omega, (fun _ => HV.out), (fun h => absurd h (by omega)), (fun h => absurd h (by omega))⟩
        case measure => simp [intOf]
      · have HNV := Lib_hid hv
        have hd : (a != 0) = true := by simpa using hv
        have e : r = a := by rw [HR.out]; unfold or3;  rw [if_neg HNV.out]
        subst e
        clear hv hh HR
        go_wp2
        go_ret
        exact ⟨rfl, rfl⟩
    · have ha := hh.out.1 (by omega)
      have HA := Lib_hid ha
      clear hk ha
      by_cases hv : b = 0
      · have HV := Lib_hid hv
        have hd : (b != 0) = false := by simpa using hv
        clear hv hh
        go_wp2
        go_round
        case rel => exact ⟨2, by go_num, by omega, (fun _ => HA.out), (fun _ => HV.out), (fun h => absurd h (by omega))⟩
        case measure => simp [intOf]
      · have HNV := Lib_hid hv
        have hd : (b != 0) = true := by simpa using hv
        have e : r = b := by rw [HR.out]; unfold or3; rw [if_pos HA.out]; rw [if_neg HNV.out]
        subst e
        clear hv hh HR
        go_wp2
        go_ret
        exact ⟨rfl, rfl⟩
    · have ha := hh.out.1 (by omega)
      have hb := hh.out.2.1 (by omega)
      have HA := Lib_hid ha
      have HB := Lib_hid hb
      clear hk ha hb
      by_cases hv : c = 0
      · have HV := Lib_hid hv
        have hd : (c != 0) = false := by simpa using hv
        clear hv hh
        go_wp2
        go_round
        case rel => exact ⟨3, by go_num, by omega, (fun _ => HA.out), (fun _ => HB.out), (fun _ => HV.out)⟩
        case measure => simp [intOf]
      · have HNV := Lib_hid hv
        have hd : (c != 0) = true := by simpa using hv
        have e : r = c := by rw [HR.out]; unfold or3; rw [if_pos HA.out]; rw [if_pos HB.out]
        subst e
        clear hv hh HR
        go_wp2
        go_ret
        exact ⟨rfl, rfl⟩
    · have ha := hh.out.1 (by omega)
      have hb := hh.out.2.1 (by omega)
      have hc := hh.out.2.2 (by omega)
      have e : r = 0 := by rw [HR.out]; unfold or3; rw [if_pos ha, if_pos hb, hc]
      subst e
      clear ha hb hc hk hh HR
      go_wp2
      go_ret
      exact ⟨rfl, rfl⟩

set_option maxRecDepth 100000 in
set_option maxHeartbeats 800000 in
theorem pcmp_any (a b : Ed) (w : World) : Calls Try.prog 28 #[eV a, eV b] w fun e w' => e = .returned (.int .i64 (cmpE a b)) ∧ Gr w w' := by
  rw [cmpE_or]
  obtain ⟨W, hW⟩ : ∃ W, W = (w.alloc (.cells #[.int .i64 a.1, .int .i64 a.2.1, .int .i64 a.2.2] 39)).alloc (.cells #[.int .i64 b.1, .int .i64 b.2.1, .int .i64 b.2.2] 39) := ⟨_, rfl⟩
  have hg : Gr w W := by rw [hW]; exact (Gr.alloc _ _).trans (Gr.alloc _ _)
  have hs0 : (w.alloc (.cells #[.int .i64 a.1, .int .i64 a.2.1, .int .i64 a.2.2] 39)).heap.size = w.heap.size + 1 := by simp
  have b1 := (below_new (w.alloc (.cells #[.int .i64 a.1, .int .i64 a.2.1, .int .i64 a.2.2] 39)) (.cells #[.int .i64 b.1, .int .i64 b.2.1, .int .i64 b.2.2] 39)).block w.heap.size (by omega)
  have b2 := heap_alloc_new (w.alloc (.cells #[.int .i64 a.1, .int .i64 a.2.1, .int .i64 a.2.2] 39)) (.cells #[.int .i64 b.1, .int .i64 b.2.1, .int .i64 b.2.2] 39)
  rw [heap_alloc_new w] at b1
  rw [hs0] at b2
  rw [← hW] at b1 b2
  have k0 := cell_of_row W w.heap.size 0 _ _ _ b1
  have k1 := cell_of_row W w.heap.size 1 _ _ _ b1
  have k2 := cell_of_row W w.heap.size 2 _ _ _ b1
  have k3 := cell_of_row W (w.heap.size + 1) 0 _ _ _ b2
  have k4 := cell_of_row W (w.heap.size + 1) 1 _ _ _ b2
  have k5 := cell_of_row W (w.heap.size + 1) 2 _ _ _ b2
  simp at k0 k1 k2 k3 k4 k5
  have hsW : W.heap.size = w.heap.size + 2 := by rw [hW]; simp
  have HC := Lib_hid (fun (x y : Int) (V : World) => zcmp_any x y V)
  have OR : Hid (∀ (x y z : Int), Calls Try.prog 52 #[.slice (some ⟨W.heap.size, 0, none⟩) 3 3] (W.alloc (.cells #[.int .i64 x, .int .i64 y, .int .i64 z] 3)).drew fun e w' => e = .returned (.int .i64 (or3 x y z)) ∧ (W.alloc (.cells #[.int .i64 x, .int .i64 y, .int .i64 z] 3)).drew = w') := fun x y z =>
    zor_any x y z _ _ (cell_of_row (W.alloc (.cells #[.int .i64 x, .int .i64 y, .int .i64 z] 3)) _ 0 _ _ _ (heap_alloc_new W (.cells #[.int .i64 x, .int .i64 y, .int .i64 z] 3))) (cell_of_row (W.alloc (.cells #[.int .i64 x, .int .i64 y, .int .i64 z] 3)) _ 1 _ _ _ (heap_alloc_new W (.cells #[.int .i64 x, .int .i64 y, .int .i64 z] 3))) (cell_of_row (W.alloc (.cells #[.int .i64 x, .int .i64 y, .int .i64 z] 3)) _ 2 _ _ _ (heap_alloc_new W (.cells #[.int .i64 x, .int .i64 y, .int .i64 z] 3)))
  have HG := Lib_hid hg
  have HW := Lib_hid hW
  clear hg hW b1 b2 hs0
  unfold eV
  generalize a.1 = a1 at *
  generalize a.2.1 = a2 at *
  generalize a.2.2 = a3 at *
  generalize b.1 = x1 at *
  generalize b.2.1 = x2 at *
  generalize b.2.2 = x3 at *
  go_enter Try.func28, Try.ntmps28
  go_upto_region 1 with (fail)
  rw [← HW.out]
  have hlt : w.heap.size + 1 < W.heap.size := by omega
  have KS : Hid (∀ V, RowKit.Below W.heap.size W V → V.cell? ⟨w.heap.size, 0, none⟩ = some (.int .i64 a1) ∧ V.cell? ⟨w.heap.size, 1, none⟩ = some (.int .i64 a2) ∧ V.cell? ⟨w.heap.size, 2, none⟩ = some (.int .i64 a3) ∧ V.cell? ⟨w.heap.size + 1, 0, none⟩ = some (.int .i64 x1) ∧ V.cell? ⟨w.heap.size + 1, 1, none⟩ = some (.int .i64 x2) ∧ V.cell? ⟨w.heap.size + 1, 2, none⟩ = some (.int .i64 x3)) := fun V hV =>
    ⟨(hV.cell (p := ⟨w.heap.size, 0, none⟩) (by show w.heap.size < _; omega)).trans k0, (hV.cell (p := ⟨w.heap.size, 1, none⟩) (by show w.heap.size < _; omega)).trans k1, (hV.cell (p := ⟨w.heap.size, 2, none⟩) (by show w.heap.size < _; omega)).trans k2, (hV.cell (p := ⟨w.heap.size + 1, 0, none⟩) hlt).trans k3, (hV.cell (p := ⟨w.heap.size + 1, 1, none⟩) hlt).trans k4, (hV.cell (p := ⟨w.heap.size + 1, 2, none⟩) hlt).trans k5⟩
  have b0 := below_drew1 W
  clear HW hsW
  go_region_held3 (fun V => V.cell? ⟨w.heap.size, 0, none⟩ = some (.int .i64 a1) ∧ V.cell? ⟨w.heap.size, 1, none⟩ = some (.int .i64 a2) ∧ V.cell? ⟨w.heap.size, 2, none⟩ = some (.int .i64 a3) ∧ V.cell? ⟨w.heap.size + 1, 0, none⟩ = some (.int .i64 x1) ∧ V.cell? ⟨w.heap.size + 1, 1, none⟩ = some (.int .i64 x2) ∧ V.cell? ⟨w.heap.size + 1, 2, none⟩ = some (.int .i64 x3))
    (first | exact ⟨k0, k1, k2, k3, k4, k5⟩ | exact KS.out _ b0 | exact KS.out _ (b0.alloc (Nat.le_refl _) _))
    ((first | (go_at_call 53; ((with_reducible refine (HC.out _ _ _).mono ?_); rintro e ws ⟨rfl, rfl⟩)) | (go_at_call 52; ((with_reducible refine (OR.out _ _ _).mono ?_); rintro e ws ⟨rfl, rfl⟩))))
  all_goals
    have hgf := Lib_hid (HG.out.trans ((Gr.alloc W (.cells #[.int .i64 (cmpZ a1 x1), .int .i64 (cmpZ a2 x2), .int .i64 (cmpZ a3 x3)] 3)).trans (Gr.drew _)))
    go_wp2
    go_ret
    exact ⟨rfl, hgf.out⟩

end Go.Proofs.Ytopecdkkmbpnbaa
