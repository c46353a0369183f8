/-
  Layer 4: Parse, the program's and the document's, where Take is known.
  Layer 4: what stands is taken as it was; what turned ones, and Both, ask; plainly.
  Layer 4: a tree turned, and two trees in one, put into boxes, in any order: what holds on the way.
-/
import Derived.Test.YtiijdacnfhiagaaGreatDoorZkTdk
import Derived.Test.YtiijdacnfhiagaaGreatDoorZkTql
import Derived.Test.YtiijdacnfhiagaaGreatDoorTtn
import Derived.Test.YtiijdacnfhiagaaGreatDoorZkTqp
import Derived.Test.YtiijdacnfhiagaaGreatDoorZkTcl
import Derived.Test.YtiijdacnfhiagaaGreatDoorZkTqh

namespace Go.Proofs.YtiijdacnfhiagaaGreatDoor
open Go Go.RowKit
set_option linter.unusedVariables false

/-- The predicate as which all of the bytes stand. -/
def parseT (l : List Nat) : Option T := (takeT l 0).bind fun x => if x.2 = l.length then some x.1 else none

set_option maxRecDepth 100000 in
theorem pparse_ret {Q : Ending → World → Prop} {W : World} {h0 : Nat} {z : Int} {x0 x1 x2 x3 : Value} (HR2 : W.heap[h0]? = some (.cells #[x0, x1, x2, x3] 25 (0, 0))) (HF2 : Q (.returned (.tuple #[.agg #[x0, x1, x2, x3], .int .i64 z])) W)
    (tmps : Array Value) (h2 : tmps.getD 2 undef = .pointer (some ⟨h0, 0, none⟩)) (h3 : tmps.getD 3 undef = .int .i64 z) : bodyPost Tryz.prog Tryz.f34 Q .ret { tmps := tmps, defers := [] } W := by
  rw [Array.getD_eq_getD_getElem?] at h2 h3
  have d0 := cell_of_row W _ 0 _ _ _ HR2
  have d1 := cell_of_row W _ 1 _ _ _ HR2
  have d2 := cell_of_row W _ 2 _ _ _ HR2
  have d3 := cell_of_row W _ 3 _ _ _ HR2
  simp at d0 d1 d2 d3
  exact bodyPost_ret (v := .tuple #[.agg #[x0, x1, x2, x3], .int .i64 z]) (by simp [results, Tryz.results34, go_sem, h2, h3, d0, d1, d2, d3]) rfl HF2

set_option maxRecDepth 100000 in
set_option maxHeartbeats 3200000 in
theorem pParse_any (l : List Nat) (Ab : Option Addr) (nb cb : Nat) (hln : l.length = nb) (w : World) (hTk : ∀ W, Below w.heap.size w W → Calls Tryz.prog 32 #[.slice Ab nb cb, .int .i64 0] W (TkEnd 25 (ansK (takeT l 0)) W)) :
    Calls Tryz.prog 34 #[.slice Ab nb cb] w (AnsEnd 25 (ansT (parseT l)) w) := by
  obtain ⟨w1, hw1⟩ : ∃ w1, w1 = w.alloc (.cells #[.int .i64 0, .int .u64 0, .int .u64 0, .slice none 0 0] 25) := ⟨_, rfl⟩
  have q1 := heap_alloc_new w (.cells #[.int .i64 0, .int .u64 0, .int .u64 0, .slice none 0 0] 25)
  have b1 := below_new w (.cells #[.int .i64 0, .int .u64 0, .int .u64 0, .slice none 0 0] 25)
  have s1 : w1.heap.size = w.heap.size + 1 := by rw [hw1]; simp
  rw [← hw1] at q1 b1
  have TK0 := hTk w1 b1
  obtain ⟨t, r, z, ho⟩ : ∃ t r z, ansK (takeT l 0) = (t, r, z) := ⟨_, _, _, rfl⟩
  rw [ho] at TK0
  have TK : Calls Tryz.prog 32 #[.slice Ab nb cb, .int .i64 0] w1 fun e w' => ∃ u : V, e = .returned (.tuple #[.agg #[.int .i64 u.kind, .int .u64 (u.a : Int), .int .u64 (u.b : Int), .slice u.addr u.parts.length u.cap], .int .i64 (r : Int), .int .i64 (z : Int)]) ∧ u.abs = t ∧ Lies w' w1.heap.size w'.heap.size u ∧ Shp 25 w' w1.heap.size u ∧ Below w1.heap.size w1 w' := TK0
  have hpo : (z = 0 ∧ r = nb → ansT (parseT l) = (t, 0)) ∧ (¬ (z = 0 ∧ r = nb) → ansT (parseT l) = (.node 0 0 0 [], 40)) := by
    unfold parseT
    cases h : takeT l 0 with
    | none =>
      rw [h] at ho
      injection ho with _ ho
      injection ho with _ ho
      refine ⟨fun h => by omega, fun _ => rfl⟩
    | some x =>
      obtain ⟨t', r'⟩ := x
      rw [h] at ho
      injection ho with e1 ho
      injection ho with e2 e3
      subst e1 e2 e3
      refine ⟨fun h => ?_, fun h => ?_⟩
      · rw [Option.bind_some, if_pos (show r' = l.length by omega)]; rfl
      · rw [Option.bind_some, if_neg (show ¬ r' = l.length by omega)]; rfl
  have HPO := Lib_hid hpo
  clear hpo TK0 ho hTk
  generalize ansT (parseT l) = o at *
  have HBADEND : Hid (∀ W : World, W.heap[w.heap.size]? = some (.cells #[.int .i64 0, .int .u64 0, .int .u64 0, .slice none 0 0] 25 (0, 0)) → Below w.heap.size w W → ¬ (z = 0 ∧ r = nb) →
      AnsEnd 25 o w (.returned (.tuple #[.agg #[.int .i64 0, .int .u64 0, .int .u64 0, .slice none 0 0], .int .i64 40])) (put4 W w.heap.size (.int .i64 0) (.int .u64 0) (.int .u64 0) (.slice none 0 0)) ∧
      (put4 W w.heap.size (.int .i64 0) (.int .u64 0) (.int .u64 0) (.slice none 0 0)).heap[w.heap.size]? = some (.cells #[.int .i64 0, .int .u64 0, .int .u64 0, .slice none 0 0] 25 (0, 0))) := by
    intro W h1 h2 h3
    rw [HPO.out.2 h3]
    exact ⟨⟨.node 0 0 0 none 0 [], rfl, by simp [V.abs, V.absL], zero_lies _ _ _, zero_shp _ _ _, put4_below h2 (Nat.le_refl _) _ _ _ _⟩, put4_row h1 _ _ _ _⟩
  subst hw1
  go_enter Tryz.func34, Tryz.ntmps34
  go_upto_region 1 with (fail)
  generalize w.alloc (.cells #[.int .i64 0, .int .u64 0, .int .u64 0, .slice none 0 0] 25) = w1 at *
  go_wp2_with fail
  refine TK.mono ?_
  rintro e w2 ⟨u, rfl, hu, hL, hS, hb2⟩
  have s2 := hb2.size
  have q2 := (hb2.block w.heap.size (by omega)).trans q1
  have hbw2 := b1.trans (hb2.mono (by omega))
  have b3 := below_new w2 (.cells #[.int .i64 u.kind, .int .u64 (u.a : Int), .int .u64 (u.b : Int), .slice u.addr u.parts.length u.cap] 25)
  have r3 := heap_alloc_new w2 (.cells #[.int .i64 u.kind, .int .u64 (u.a : Int), .int .u64 (u.b : Int), .slice u.addr u.parts.length u.cap] 25)
  have q3 := (b3.block w.heap.size (by omega)).trans q2
  have hbw3 := hbw2.trans (b3.mono (by omega))
  have HLS := Lib_hid (And.intro hu (And.intro (hL.under b3) (hS.under b3)))
  have hs3 := b3.size
  clear TK hb2 hL hS hu q2 hbw2 b3 q1 b1
  go_upto_region 2 with (fail)
  generalize w2.alloc (.cells #[.int .i64 u.kind, .int .u64 (u.a : Int), .int .u64 (u.b : Int), .slice u.addr u.parts.length u.cap] 25) = w3 at *
  have e0 := cell_of_row w3 _ 0 _ _ _ q3
  have e1 := cell_of_row w3 _ 1 _ _ _ q3
  have e2 := cell_of_row w3 _ 2 _ _ _ q3
  have e3 := cell_of_row w3 _ 3 _ _ _ q3
  have y0 := frozen_of_row w3 w.heap.size 0 _ _ q3
  have y1 := frozen_of_row w3 w.heap.size 1 _ _ q3
  have y2 := frozen_of_row w3 w.heap.size 2 _ _ q3
  have y3 := frozen_of_row w3 w.heap.size 3 _ _ q3
  simp at e0 e1 e2 e3
  by_cases hz : z = 0
  · subst hz
    by_cases hr : r = nb
    · subst hr
      have f0 := cell_of_row w3 _ 0 _ _ _ r3
      have f1 := cell_of_row w3 _ 1 _ _ _ r3
      have f2 := cell_of_row w3 _ 2 _ _ _ r3
      have f3 := cell_of_row w3 _ 3 _ _ _ r3
      simp at f0 f1 f2 f3
      have HX : Hid (AnsEnd 25 o w (.returned (.tuple #[.agg #[.int .i64 u.kind, .int .u64 (u.a : Int), .int .u64 (u.b : Int), .slice u.addr u.parts.length u.cap], .int .i64 0])) (put4 w3 w.heap.size (.int .i64 u.kind) (.int .u64 (u.a : Int)) (.int .u64 (u.b : Int)) (.slice u.addr u.parts.length u.cap)) ∧
          (put4 w3 w.heap.size (.int .i64 u.kind) (.int .u64 (u.a : Int)) (.int .u64 (u.b : Int)) (.slice u.addr u.parts.length u.cap)).heap[w.heap.size]? = some (.cells #[.int .i64 u.kind, .int .u64 (u.a : Int), .int .u64 (u.b : Int), .slice u.addr u.parts.length u.cap] 25 (0, 0))) := by
        obtain ⟨hu, hL4, hS4⟩ := HLS.out
        rw [HPO.out.1 ⟨rfl, rfl⟩]
        refine ⟨⟨u, rfl, hu, ?_, ?_, put4_below hbw3 (Nat.le_refl _) _ _ _ _⟩, put4_row q3 _ _ _ _⟩
        · rw [put4_size]
          exact (hL4.keep fun p h1 _ => World.cell?_of_block (put4_else w3 (by omega) _ _ _ _)).more (by omega) (by omega)
        · exact (Shp.keepL _ hL4 hS4 fun g' h1 _ => put4_else w3 (by omega) _ _ _ _).more (by omega)
      clear q3 r3 hbw3 HLS HBADEND HPO
      generalize u.addr = uA at *
      generalize u.cap = uc at *
      generalize u.parts.length = un at *
      generalize u.kind = uk at *
      generalize (u.a : Int) = ua at *
      generalize (u.b : Int) = ub at *
      go_wp2_with fail
      show bodyPost _ _ _ _ _ (put4 w3 w.heap.size (.int .i64 uk) (.int .u64 ua) (.int .u64 ub) (.slice uA un uc))
      have HX2 := HX.out
      clear HX e0 e1 e2 e3 y0 y1 y2 y3 f0 f1 f2 f3
      generalize put4 w3 w.heap.size (.int .i64 uk) (.int .u64 ua) (.int .u64 ub) (.slice uA un uc) = W2 at *
      exact pparse_ret (z := 0) HX2.2 HX2.1 _ rfl rfl
    · have HX := Lib_hid (HBADEND.out w3 q3 hbw3 (fun h => hr h.2))
      have hrI : ¬ (r : Int) = (nb : Int) := by omega
      have hrB : ((r : Int) == (nb : Int)) = false := by simp; omega
      have hrC : ((r : Int) != (nb : Int)) = true := by simp; omega
      clear q3 r3 hbw3 HLS HBADEND HPO
      generalize u.addr = uA at *
      generalize u.cap = uc at *
      generalize u.parts.length = un at *
      generalize u.kind = uk at *
      generalize (u.a : Int) = ua at *
      generalize (u.b : Int) = ub at *
      go_wp2_with fail
      show bodyPost _ _ _ _ _ (put4 w3 w.heap.size (.int .i64 0) (.int .u64 0) (.int .u64 0) (.slice none 0 0))
      have HX2 := HX.out
      clear HX e0 e1 e2 e3 y0 y1 y2 y3
      generalize put4 w3 w.heap.size (.int .i64 0) (.int .u64 0) (.int .u64 0) (.slice none 0 0) = W2 at *
      exact pparse_ret (z := 40) HX2.2 HX2.1 _ rfl rfl
  · have HX := Lib_hid (HBADEND.out w3 q3 hbw3 (fun h => hz h.1))
    have hrI : ¬ (z : Int) = 0 := by omega
    have hrB : ((z : Int) == 0) = false := by simp; omega
    have hrC : ((z : Int) != 0) = true := by simp; omega
    clear q3 r3 hbw3 HLS HBADEND HPO
    generalize u.addr = uA at *
    generalize u.cap = uc at *
    generalize u.parts.length = un at *
    generalize u.kind = uk at *
    generalize (u.a : Int) = ua at *
    generalize (u.b : Int) = ub at *
    go_wp2_with fail
    show bodyPost _ _ _ _ _ (put4 w3 w.heap.size (.int .i64 0) (.int .u64 0) (.int .u64 0) (.slice none 0 0))
    have HX2 := HX.out
    clear HX e0 e1 e2 e3 y0 y1 y2 y3
    generalize put4 w3 w.heap.size (.int .i64 0) (.int .u64 0) (.int .u64 0) (.slice none 0 0) = W2 at *
    exact pparse_ret (z := 40) HX2.2 HX2.1 _ rfl rfl

set_option maxRecDepth 100000 in
theorem rparse_ret {Q : Ending → World → Prop} {W : World} {h0 : Nat} {z : Int} {x0 x1 x2 x3 : Value} (HR2 : W.heap[h0]? = some (.cells #[x0, x1, x2, x3] 30 (0, 0))) (HF2 : Q (.returned (.tuple #[.agg #[x0, x1, x2, x3], .int .i64 z])) W)
    (tmps : Array Value) (h2 : tmps.getD 2 undef = .pointer (some ⟨h0, 0, none⟩)) (h3 : tmps.getD 3 undef = .int .i64 z) : bodyPost Tryz.prog Tryz.f35 Q .ret { tmps := tmps, defers := [] } W := by
  rw [Array.getD_eq_getD_getElem?] at h2 h3
  have d0 := cell_of_row W _ 0 _ _ _ HR2
  have d1 := cell_of_row W _ 1 _ _ _ HR2
  have d2 := cell_of_row W _ 2 _ _ _ HR2
  have d3 := cell_of_row W _ 3 _ _ _ HR2
  simp at d0 d1 d2 d3
  exact bodyPost_ret (v := .tuple #[.agg #[x0, x1, x2, x3], .int .i64 z]) (by simp [results, Tryz.results35, go_sem, h2, h3, d0, d1, d2, d3]) rfl HF2

set_option maxRecDepth 100000 in
set_option maxHeartbeats 3200000 in
theorem rParse_any (l : List Nat) (Ab : Option Addr) (nb cb : Nat) (hln : l.length = nb) (w : World) (hTk : ∀ W, Below w.heap.size w W → Calls Tryz.prog 33 #[.slice Ab nb cb, .int .i64 0] W (TkEnd 30 (ansK (takeT l 0)) W)) :
    Calls Tryz.prog 35 #[.slice Ab nb cb] w (AnsEnd 30 (ansT (parseT l)) w) := by
  obtain ⟨w1, hw1⟩ : ∃ w1, w1 = w.alloc (.cells #[.int .i64 0, .int .u64 0, .int .u64 0, .slice none 0 0] 30) := ⟨_, rfl⟩
  have q1 := heap_alloc_new w (.cells #[.int .i64 0, .int .u64 0, .int .u64 0, .slice none 0 0] 30)
  have b1 := below_new w (.cells #[.int .i64 0, .int .u64 0, .int .u64 0, .slice none 0 0] 30)
  have s1 : w1.heap.size = w.heap.size + 1 := by rw [hw1]; simp
  rw [← hw1] at q1 b1
  have TK0 := hTk w1 b1
  obtain ⟨t, r, z, ho⟩ : ∃ t r z, ansK (takeT l 0) = (t, r, z) := ⟨_, _, _, rfl⟩
  rw [ho] at TK0
  have TK : Calls Tryz.prog 33 #[.slice Ab nb cb, .int .i64 0] w1 fun e w' => ∃ u : V, e = .returned (.tuple #[.agg #[.int .i64 u.kind, .int .u64 (u.a : Int), .int .u64 (u.b : Int), .slice u.addr u.parts.length u.cap], .int .i64 (r : Int), .int .i64 (z : Int)]) ∧ u.abs = t ∧ Lies w' w1.heap.size w'.heap.size u ∧ Shp 30 w' w1.heap.size u ∧ Below w1.heap.size w1 w' := TK0
  have hpo : (z = 0 ∧ r = nb → ansT (parseT l) = (t, 0)) ∧ (¬ (z = 0 ∧ r = nb) → ansT (parseT l) = (.node 0 0 0 [], 40)) := by
    unfold parseT
    cases h : takeT l 0 with
    | none =>
      rw [h] at ho
      injection ho with _ ho
      injection ho with _ ho
      refine ⟨fun h => by omega, fun _ => rfl⟩
    | some x =>
      obtain ⟨t', r'⟩ := x
      rw [h] at ho
      injection ho with e1 ho
      injection ho with e2 e3
      subst e1 e2 e3
      refine ⟨fun h => ?_, fun h => ?_⟩
      · rw [Option.bind_some, if_pos (show r' = l.length by omega)]; rfl
      · rw [Option.bind_some, if_neg (show ¬ r' = l.length by omega)]; rfl
  have HPO := Lib_hid hpo
  clear hpo TK0 ho hTk
  generalize ansT (parseT l) = o at *
  have HBADEND : Hid (∀ W : World, W.heap[w.heap.size]? = some (.cells #[.int .i64 0, .int .u64 0, .int .u64 0, .slice none 0 0] 30 (0, 0)) → Below w.heap.size w W → ¬ (z = 0 ∧ r = nb) →
      AnsEnd 30 o w (.returned (.tuple #[.agg #[.int .i64 0, .int .u64 0, .int .u64 0, .slice none 0 0], .int .i64 40])) (put4 W w.heap.size (.int .i64 0) (.int .u64 0) (.int .u64 0) (.slice none 0 0)) ∧
      (put4 W w.heap.size (.int .i64 0) (.int .u64 0) (.int .u64 0) (.slice none 0 0)).heap[w.heap.size]? = some (.cells #[.int .i64 0, .int .u64 0, .int .u64 0, .slice none 0 0] 30 (0, 0))) := by
    intro W h1 h2 h3
    rw [HPO.out.2 h3]
    exact ⟨⟨.node 0 0 0 none 0 [], rfl, by simp [V.abs, V.absL], zero_lies _ _ _, zero_shp _ _ _, put4_below h2 (Nat.le_refl _) _ _ _ _⟩, put4_row h1 _ _ _ _⟩
  subst hw1
  go_enter Tryz.func35, Tryz.ntmps35
  go_upto_region 1 with (fail)
  generalize w.alloc (.cells #[.int .i64 0, .int .u64 0, .int .u64 0, .slice none 0 0] 30) = w1 at *
  go_wp2_with fail
  refine TK.mono ?_
  rintro e w2 ⟨u, rfl, hu, hL, hS, hb2⟩
  have s2 := hb2.size
  have q2 := (hb2.block w.heap.size (by omega)).trans q1
  have hbw2 := b1.trans (hb2.mono (by omega))
  have b3 := below_new w2 (.cells #[.int .i64 u.kind, .int .u64 (u.a : Int), .int .u64 (u.b : Int), .slice u.addr u.parts.length u.cap] 30)
  have r3 := heap_alloc_new w2 (.cells #[.int .i64 u.kind, .int .u64 (u.a : Int), .int .u64 (u.b : Int), .slice u.addr u.parts.length u.cap] 30)
  have q3 := (b3.block w.heap.size (by omega)).trans q2
  have hbw3 := hbw2.trans (b3.mono (by omega))
  have HLS := Lib_hid (And.intro hu (And.intro (hL.under b3) (hS.under b3)))
  have hs3 := b3.size
  clear TK hb2 hL hS hu q2 hbw2 b3 q1 b1
  go_upto_region 2 with (fail)
  generalize w2.alloc (.cells #[.int .i64 u.kind, .int .u64 (u.a : Int), .int .u64 (u.b : Int), .slice u.addr u.parts.length u.cap] 30) = w3 at *
  have e0 := cell_of_row w3 _ 0 _ _ _ q3
  have e1 := cell_of_row w3 _ 1 _ _ _ q3
  have e2 := cell_of_row w3 _ 2 _ _ _ q3
  have e3 := cell_of_row w3 _ 3 _ _ _ q3
  have y0 := frozen_of_row w3 w.heap.size 0 _ _ q3
  have y1 := frozen_of_row w3 w.heap.size 1 _ _ q3
  have y2 := frozen_of_row w3 w.heap.size 2 _ _ q3
  have y3 := frozen_of_row w3 w.heap.size 3 _ _ q3
  simp at e0 e1 e2 e3
  by_cases hz : z = 0
  · subst hz
    by_cases hr : r = nb
    · subst hr
      have f0 := cell_of_row w3 _ 0 _ _ _ r3
      have f1 := cell_of_row w3 _ 1 _ _ _ r3
      have f2 := cell_of_row w3 _ 2 _ _ _ r3
      have f3 := cell_of_row w3 _ 3 _ _ _ r3
      simp at f0 f1 f2 f3
      have HX : Hid (AnsEnd 30 o w (.returned (.tuple #[.agg #[.int .i64 u.kind, .int .u64 (u.a : Int), .int .u64 (u.b : Int), .slice u.addr u.parts.length u.cap], .int .i64 0])) (put4 w3 w.heap.size (.int .i64 u.kind) (.int .u64 (u.a : Int)) (.int .u64 (u.b : Int)) (.slice u.addr u.parts.length u.cap)) ∧
          (put4 w3 w.heap.size (.int .i64 u.kind) (.int .u64 (u.a : Int)) (.int .u64 (u.b : Int)) (.slice u.addr u.parts.length u.cap)).heap[w.heap.size]? = some (.cells #[.int .i64 u.kind, .int .u64 (u.a : Int), .int .u64 (u.b : Int), .slice u.addr u.parts.length u.cap] 30 (0, 0))) := by
        obtain ⟨hu, hL4, hS4⟩ := HLS.out
        rw [HPO.out.1 ⟨rfl, rfl⟩]
        refine ⟨⟨u, rfl, hu, ?_, ?_, put4_below hbw3 (Nat.le_refl _) _ _ _ _⟩, put4_row q3 _ _ _ _⟩
        · rw [put4_size]
          exact (hL4.keep fun p h1 _ => World.cell?_of_block (put4_else w3 (by omega) _ _ _ _)).more (by omega) (by omega)
        · exact (Shp.keepL _ hL4 hS4 fun g' h1 _ => put4_else w3 (by omega) _ _ _ _).more (by omega)
      clear q3 r3 hbw3 HLS HBADEND HPO
      generalize u.addr = uA at *
      generalize u.cap = uc at *
      generalize u.parts.length = un at *
      generalize u.kind = uk at *
      generalize (u.a : Int) = ua at *
      generalize (u.b : Int) = ub at *
      go_wp2_with fail
      show bodyPost _ _ _ _ _ (put4 w3 w.heap.size (.int .i64 uk) (.int .u64 ua) (.int .u64 ub) (.slice uA un uc))
      have HX2 := HX.out
      clear HX e0 e1 e2 e3 y0 y1 y2 y3 f0 f1 f2 f3
      generalize put4 w3 w.heap.size (.int .i64 uk) (.int .u64 ua) (.int .u64 ub) (.slice uA un uc) = W2 at *
      exact rparse_ret (z := 0) HX2.2 HX2.1 _ rfl rfl
    · have HX := Lib_hid (HBADEND.out w3 q3 hbw3 (fun h => hr h.2))
      have hrI : ¬ (r : Int) = (nb : Int) := by omega
      have hrB : ((r : Int) == (nb : Int)) = false := by simp; omega
      have hrC : ((r : Int) != (nb : Int)) = true := by simp; omega
      clear q3 r3 hbw3 HLS HBADEND HPO
      generalize u.addr = uA at *
      generalize u.cap = uc at *
      generalize u.parts.length = un at *
      generalize u.kind = uk at *
      generalize (u.a : Int) = ua at *
      generalize (u.b : Int) = ub at *
      go_wp2_with fail
      show bodyPost _ _ _ _ _ (put4 w3 w.heap.size (.int .i64 0) (.int .u64 0) (.int .u64 0) (.slice none 0 0))
      have HX2 := HX.out
      clear HX e0 e1 e2 e3 y0 y1 y2 y3
      generalize put4 w3 w.heap.size (.int .i64 0) (.int .u64 0) (.int .u64 0) (.slice none 0 0) = W2 at *
      exact rparse_ret (z := 40) HX2.2 HX2.1 _ rfl rfl
  · have HX := Lib_hid (HBADEND.out w3 q3 hbw3 (fun h => hz h.1))
    have hrI : ¬ (z : Int) = 0 := by omega
    have hrB : ((z : Int) == 0) = false := by simp; omega
    have hrC : ((z : Int) != 0) = true := by simp; omega
    clear q3 r3 hbw3 HLS HBADEND HPO
    generalize u.addr = uA at *
    generalize u.cap = uc at *
    generalize u.parts.length = un at *
    generalize u.kind = uk at *
    generalize (u.a : Int) = ua at *
    generalize (u.b : Int) = ub at *
    go_wp2_with fail
    show bodyPost _ _ _ _ _ (put4 w3 w.heap.size (.int .i64 0) (.int .u64 0) (.int .u64 0) (.slice none 0 0))
    have HX2 := HX.out
    clear HX e0 e1 e2 e3 y0 y1 y2 y3
    generalize put4 w3 w.heap.size (.int .i64 0) (.int .u64 0) (.int .u64 0) (.slice none 0 0) = W2 at *
    exact rparse_ret (z := 40) HX2.2 HX2.1 _ rfl rfl

end Go.Proofs.YtiijdacnfhiagaaGreatDoor

namespace Go.Proofs.YtiijdacnfhiagaaGreatDoor
open Go Go.RowKit
set_option linter.unusedVariables false

/-! ### Bytes -/
theorem num_at {l : List Nat} {a v : Nat} {ys : List Nat} (hb : ∀ x ∈ l, x < 256) (hv : v < 18446744073709551616) (h : l.drop a = enc v ++ ys) : numT l a = some (v, a + (enc v).length) := by
  have hp := enc_pos v
  have hl : a < l.length := by
    have := congrArg List.length h
    rw [List.length_drop, List.length_append] at this
    omega
  have hg : getS l (a : Int) = (v, a + (enc v).length, 0) := by
    unfold getS
    rw [if_neg (by omega), Int.toNat_natCast, h, got_enc v ys hv (fun x hx => hb x (List.mem_of_mem_drop (i := a) (by rw [h]; exact List.mem_append_right _ hx)))]
    rfl
  unfold numT
  rw [hg]
  rfl
theorem drop_more {l xs ys : List Nat} {a : Nat} (h : l.drop a = xs ++ ys) : l.drop (a + xs.length) = ys := by
  rw [← List.drop_drop, h, List.drop_left]
theorem many_at {l : List Nat} {f : Nat → Option (T × Nat)} (ys : List Nat) : ∀ (ps : List T) (a : Nat), (∀ p ∈ ps, ∀ a' zs, l.drop a' = p.stand ++ zs → f a' = some (p, a' + p.stand.length)) → l.drop a = T.standL ps ++ ys → manyT f ps.length a = some (ps, a + (T.standL ps).length)
  | [], a, _, _ => by simp [manyT, T.standL]
  | p :: ps, a, hf, h => by
    rw [T.standL, List.append_assoc] at h
    have h1 := hf p (by simp) a _ h
    have h2 := many_at ys ps (a + p.stand.length) (fun q hq => hf q (by simp [hq])) (drop_more h)
    rw [List.length_cons, manyT, h1, Option.bind_some]
    simp only
    rw [h2, Option.map_some, T.standL, List.length_append]
    simp
    omega
theorem stand_byte : ∀ t : T, t.allB = true → ∀ x ∈ t.stand, x < 256 := by
  refine T.ind fun k a b ps ih hall => ?_
  rw [T.allB, Bool.and_eq_true] at hall
  have hk := fits_kind hall.2
  have hsl : ∀ qs : List T, (∀ q ∈ qs, q ∈ ps) → ∀ x ∈ T.standL qs, x < 256 := by
    intro qs
    induction qs with
    | nil => intro _ x hx; simp [T.standL] at hx
    | cons q qs ih2 =>
      intro hq x hx
      rw [T.standL, List.mem_append] at hx
      rcases hx with hx | hx
      · exact ih q (hq q (by simp)) (all_mem hall.1 q (hq q (by simp))) x hx
      · exact ih2 (fun y hy => hq y (by simp [hy])) x hx
  intro x hx
  rw [T.stand, List.mem_cons, List.mem_append, List.mem_append, List.mem_flatMap] at hx
  rcases hx with rfl | (⟨n, -, hx⟩ | hx) | hx
  · omega
  · exact enc_byte n x hx
  · split at hx
    · exact enc_byte _ x hx
    · simp at hx
  · exact hsl ps (fun q hq => hq) x hx
theorem tk_stand {l : List Nat} (hb : ∀ x ∈ l, x < 256) : ∀ (t : T) (d a : Nat) (ys : List Nat), t.allB = true → t.okN → t.depth ≤ d → l.drop a = t.stand ++ ys → tkS l d a = some (t, a + t.stand.length) := by
  refine T.ind fun k n1 n2 ps ih d a ys hall hok hd h => ?_
  rw [T.allB, Bool.and_eq_true] at hall
  rw [T.okN] at hok
  rw [T.depth] at hd
  obtain ⟨ha, hb', hpl, hol⟩ := hok
  obtain ⟨hal, hfit⟩ := hall
  obtain ⟨d', rfl⟩ : ∃ d', d = d' + 1 := ⟨d - 1, by omega⟩
  have hk := fits_kind hfit
  obtain ⟨kd, rfl⟩ : ∃ kd : Nat, k = kd := ⟨k.toNat, by omega⟩
  have IH : ∀ p ∈ ps, ∀ a' zs, l.drop a' = p.stand ++ zs → tkS l d' a' = some (p, a' + p.stand.length) := fun p hp a' zs hz => ih p hp d' a' zs (all_mem hal p hp) ((okL_iff _).1 hol p hp) (depth_mem (by omega) p hp) hz
  have hst : (T.node kd n1 n2 ps).stand = kd :: ((numsL kd n1 n2).flatMap enc ++ (if (6 : Int) ≤ (kd : Int) then enc ps.length else []) ++ T.standL ps) := by rw [T.stand, Int.toNat_natCast]
  rw [hst, List.cons_append] at h
  have hal2 : a < l.length := by
    have := congrArg List.length h
    rw [List.length_drop, List.length_cons] at this
    omega
  have hkt : kindT l a = (kd, a + 1) := by
    unfold kindT
    rw [if_pos hal2]
    have := congrArg (fun x => x[0]?) h
    simp only [List.getElem?_drop, Nat.add_zero, List.getElem?_cons_zero] at this
    rw [List.getD_eq_getElem?_getD, this]
    rfl
  have h1 : l.drop (a + 1) = (numsL kd n1 n2).flatMap enc ++ ((if (6 : Int) ≤ (kd : Int) then enc ps.length else []) ++ (T.standL ps ++ ys)) := by
    rw [← List.drop_drop, h]
    simp [List.append_assoc]
  have hnums : ∃ vs, numsT l (numN kd) (a + 1) = some (vs, a + 1 + ((numsL kd n1 n2).flatMap enc).length) ∧ vs.getD 0 0 = n1 ∧ vs.getD 1 0 = n2 := by
    have hfit2 := hfit
    unfold fitsB at hfit2
    have h7 : kd = 1 ∨ kd = 2 ∨ kd = 3 ∨ kd = 4 ∨ kd = 5 ∨ kd = 6 ∨ kd = 7 := by omega
    rcases h7 with rfl | rfl | rfl | rfl | rfl | rfl | rfl
    · obtain ⟨rfl, rfl, -⟩ := of_decide_eq_true hfit2; exact ⟨[], rfl, rfl, rfl⟩
    · obtain ⟨rfl, -⟩ := of_decide_eq_true hfit2
      have e : (numsL (2 : Nat) n1 0).flatMap enc = enc n1 := by simp [numsL, numN]
      rw [e] at h1 ⊢
      refine ⟨[n1], ?_, rfl, rfl⟩
      show ((numT l (a + 1)).map _) = _
      rw [num_at hb ha h1]
      rfl
    · obtain ⟨rfl, -⟩ := of_decide_eq_true hfit2
      have e : (numsL (3 : Nat) n1 0).flatMap enc = enc n1 := by simp [numsL, numN]
      rw [e] at h1 ⊢
      refine ⟨[n1], ?_, rfl, rfl⟩
      show ((numT l (a + 1)).map _) = _
      rw [num_at hb ha h1]
      rfl
    · have e : (numsL (4 : Nat) n1 n2).flatMap enc = enc n1 ++ enc n2 := by simp [numsL, numN]
      rw [e] at h1 ⊢
      rw [List.append_assoc] at h1
      refine ⟨[n1, n2], ?_, rfl, rfl⟩
      show (((numT l (a + 1)).map _).bind _) = _
      rw [num_at hb ha h1]
      simp only [Option.map_some, Option.bind_some]
      rw [num_at hb hb' (drop_more h1)]
      simp [Nat.add_assoc]
    · obtain ⟨rfl, rfl, -⟩ := of_decide_eq_true hfit2; exact ⟨[], rfl, rfl, rfl⟩
    · obtain ⟨rfl, rfl⟩ := of_decide_eq_true hfit2; exact ⟨[], rfl, rfl, rfl⟩
    · obtain ⟨rfl, rfl⟩ := of_decide_eq_true hfit2; exact ⟨[], rfl, rfl, rfl⟩
  obtain ⟨vs, hvs, hv1, hv2⟩ := hnums
  have h2 := drop_more h1
  have hcnt : cntT l kd (a + 1 + ((numsL kd n1 n2).flatMap enc).length) = some (ps.length, a + 1 + ((numsL kd n1 n2).flatMap enc).length + (if (6 : Int) ≤ (kd : Int) then enc ps.length else []).length) := by
    unfold cntT
    by_cases h6 : 6 ≤ kd
    · rw [if_pos (by omega : (6 : Int) ≤ (kd : Int))] at h2 ⊢
      rw [if_pos h6, num_at hb hpl h2]
    · rw [if_neg h6, if_neg (show ¬ (6 : Int) ≤ (kd : Int) by omega)]
      have hfit2 := hfit
      unfold fitsB at hfit2
      have h7 : kd = 1 ∨ kd = 2 ∨ kd = 3 ∨ kd = 4 ∨ kd = 5 := by omega
      rcases h7 with rfl | rfl | rfl | rfl | rfl
      · rw [(of_decide_eq_true hfit2).2.2]; rfl
      · rw [(of_decide_eq_true hfit2).2]; rfl
      · rw [(of_decide_eq_true hfit2).2]; rfl
      · rw [(of_decide_eq_true hfit2).2]; rfl
      · rw [(of_decide_eq_true hfit2).2.2]; rfl
  have h3 := drop_more h2
  rw [tkS_succ hkt (by omega) (by omega), hvs, Option.bind_some]
  simp only
  rw [hcnt, Option.bind_some]
  simp only
  rw [many_at ys ps _ IH h3, Option.map_some, hv1, hv2, hst]
  simp only [List.length_cons, List.length_append]
  congr 2
  omega
theorem take_stand {t : T} (hr : t.rightB = true) (hok : t.okN) {ys : List Nat} (hy : ∀ y ∈ ys, y < 256) : takeT (t.stand ++ ys) 0 = some (t, t.stand.length) := by
  have h := hr
  unfold T.rightB at h
  rw [Bool.and_eq_true, Bool.and_eq_true] at h
  have hb : ∀ x ∈ t.stand ++ ys, x < 256 := fun x hx => by
    rcases List.mem_append.1 hx with hx | hx
    · exact stand_byte t h.1.1 x hx
    · exact hy x hx
  have := tk_stand hb t 8 0 ys h.1.1 hok (of_decide_eq_true h.1.2) rfl
  unfold takeT tkI
  rw [if_neg (by omega), show (0 : Int).toNat = 0 from rfl, this]
  simp [hr]
theorem parse_stand {t : T} (hr : t.rightB = true) (hok : t.okN) : parseT t.stand = some t := by
  have := take_stand hr hok (ys := []) (by simp)
  rw [List.append_nil] at this
  unfold parseT
  rw [this]
  simp
theorem stand_inj {p q : T} (hp : p.rightB = true) (hq : q.rightB = true) (op : p.okN) (oq : q.okN) (h : p.stand = q.stand) : p = q := by
  have h1 := parse_stand hp op
  rw [h, parse_stand hq oq] at h1
  exact (Option.some.inj h1).symm
/-! ### What turned ones, and Both, ask -/
theorem turn_asks (t : T) (x y : Nat) : t.turn.askB x y = !(t.askB x y) := by
  obtain ⟨k, a, b, ps⟩ := t
  by_cases h : k ≠ 5 ∨ ps.length ≠ 1
  · rw [T.turn_else k a b ps h, T.askB]
    unfold askN
    simp only [T.manyL]
    rcases Bool.eq_false_or_eq_true ((T.node k a b ps).askB x y) with e | e <;> simp [e]
  · have h5 : k = 5 := by omega
    obtain ⟨q, rfl⟩ : ∃ q, ps = [q] := by
      match ps, (show ps.length = 1 by omega) with
      | [q], _ => exact ⟨q, rfl⟩
    subst h5
    rw [T.turn_one, T.askB]
    unfold askN
    simp only [T.manyL]
    rcases Bool.eq_false_or_eq_true (q.askB x y) with e | e <;> simp [e]
theorem both_asks (p q : T) (x y : Nat) : (T.node 6 0 0 [p, q]).askB x y = (p.askB x y && q.askB x y) := by
  rw [T.askB]
  unfold askN
  simp only [T.manyL]
  rcases Bool.eq_false_or_eq_true (p.askB x y) with e | e <;> rcases Bool.eq_false_or_eq_true (q.askB x y) with e2 | e2 <;> simp [e, e2]

end Go.Proofs.YtiijdacnfhiagaaGreatDoor

namespace Go.Proofs.YtiijdacnfhiagaaGreatDoor
open Go Go.RowKit
set_option linter.unusedVariables false

/-- On the way: the operations' values (slots 143 to 148, the boxes 20 and 21). -/
structure P13 (w3 : World) (pv qv : Value) (rowc : Obj) (tp tq : T) (a0 : Act) (L : Nat → Bool) (a : Act) (w : World) (g4 g9 g10 l1 h1 l2 h2 : Nat) (u r : V) : Prop where
  size : a.tmps.size = a0.tmps.size
  defers : a.defers = a0.defers
  other : ∀ s, s ≠ 143 → s ≠ 144 → s ≠ 145 → s ≠ 146 → s ≠ 147 → s ≠ 148 → s ≠ 20 → s ≠ 21 → a.tmps.getD s undef = a0.tmps.getD s undef
  below : Below w3.heap.size w3 w
  o0 : L 0 = true → a.tmps.getD 143 undef = pv
  o2 : L 2 = true → a.tmps.getD 145 undef = pv
  o3 : L 3 = true → a.tmps.getD 146 undef = qv
  o4 : L 4 = true → a.tmps.getD 147 undef = .slice (some ⟨g4, 0, none⟩) 2 2 ∧ (L 8 = false → L 9 = false → w.heap[g4]? = some rowc)
  o1 : L 1 = true → a.tmps.getD 144 undef = (.agg #[.int .i64 u.kind, .int .u64 (u.a : Int), .int .u64 (u.b : Int), .slice u.addr u.parts.length u.cap]) ∧ u.abs = tp ∧ Lies w l1 h1 u ∧ w3.heap.size ≤ l1 ∧ h1 ≤ w.heap.size
  o5 : L 5 = true → a.tmps.getD 148 undef = (.agg #[.int .i64 r.kind, .int .u64 (r.a : Int), .int .u64 (r.b : Int), .slice r.addr r.parts.length r.cap]) ∧ r.abs = tq ∧ Lies w l2 h2 r ∧ w3.heap.size ≤ l2 ∧ h2 ≤ w.heap.size
  o6 : L 6 = true → a.tmps.getD 20 undef = .pointer (some ⟨g9, 0, none⟩) ∧ w3.heap.size ≤ g9 ∧ ∃ x0 x1 x2 x3, w.heap[g9]? = some (.cells #[x0, x1, x2, x3] 25 (0, 0))
  o7 : L 7 = true → a.tmps.getD 21 undef = .pointer (some ⟨g10, 0, none⟩) ∧ w3.heap.size ≤ g10 ∧ ∃ x0 x1 x2 x3, w.heap[g10]? = some (.cells #[x0, x1, x2, x3] 25 (0, 0))
  d16 : L 1 = true → L 6 = true → g9 < l1 ∨ h1 ≤ g9
  d56 : L 5 = true → L 6 = true → g9 < l2 ∨ h2 ≤ g9
  d17 : L 1 = true → L 7 = true → g10 < l1 ∨ h1 ≤ g10
  d57 : L 5 = true → L 7 = true → g10 < l2 ∨ h2 ≤ g10
  d67 : L 6 = true → L 7 = true → g9 ≠ g10
  o8 : L 8 = true → L 6 = true ∧ L 1 = true ∧ L 5 = true ∧ w.heap[g9]? = some (.cells #[.int .i64 u.kind, .int .u64 (u.a : Int), .int .u64 (u.b : Int), .slice u.addr u.parts.length u.cap] 25 (0, 0))
  o9 : L 9 = true → L 7 = true ∧ L 5 = true ∧ w.heap[g10]? = some (.cells #[.int .i64 r.kind, .int .u64 (r.a : Int), .int .u64 (r.b : Int), .slice r.addr r.parts.length r.cap] 25 (0, 0))

section
variable {w3 : World} {pv qv : Value} {rowc : Obj} {tp tq : T} {a0 : Act} {L : Nat → Bool} {a : Act} {w w' : World} {g4 g9 g10 l1 h1 l2 h2 : Nat} {u r : V}
theorem P13.grow (h : P13 w3 pv qv rowc tp tq a0 L a w g4 g9 g10 l1 h1 l2 h2 u r) (hb : Below w.heap.size w w') : P13 w3 pv qv rowc tp tq a0 L a w' g4 g9 g10 l1 h1 l2 h2 u r := by
  have kp : ∀ {g : Nat} {o : Obj}, w.heap[g]? = some o → w'.heap[g]? = some o := fun {g o} e => (hb.block g (lt_of_block e)).trans e
  refine ⟨h.size, h.defers, h.other, h.below.trans (hb.mono h.below.size), h.o0, h.o2, h.o3, fun k => ⟨(h.o4 k).1, fun k1 k2 => kp ((h.o4 k).2 k1 k2)⟩, fun k => ?_, fun k => ?_, fun k => ?_, fun k => ?_, h.d16, h.d56, h.d17, h.d57, h.d67, fun k => ?_, fun k => ?_⟩
  · obtain ⟨e1, e2, e3, e4, e5⟩ := h.o1 k; exact ⟨e1, e2, e3.under (hb.mono e5), e4, Nat.le_trans e5 hb.size⟩
  · obtain ⟨e1, e2, e3, e4, e5⟩ := h.o5 k; exact ⟨e1, e2, e3.under (hb.mono e5), e4, Nat.le_trans e5 hb.size⟩
  · obtain ⟨e1, e2, x0, x1, x2, x3, e3⟩ := h.o6 k; exact ⟨e1, e2, x0, x1, x2, x3, kp e3⟩
  · obtain ⟨e1, e2, x0, x1, x2, x3, e3⟩ := h.o7 k; exact ⟨e1, e2, x0, x1, x2, x3, kp e3⟩
  · obtain ⟨e1, e2, e4, e3⟩ := h.o8 k; exact ⟨e1, e2, e4, kp e3⟩
  · obtain ⟨e1, e2, e3⟩ := h.o9 k; exact ⟨e1, e2, kp e3⟩
theorem P13.op0 (h : P13 w3 pv qv rowc tp tq a0 L a w g4 g9 g10 l1 h1 l2 h2 u r) (hs : a0.tmps.size = 185) : P13 w3 pv qv rowc tp tq a0 (more L 0) (a.put (some 143) pv) w g4 g9 g10 l1 h1 l2 h2 u r := by
  refine ⟨(put_size.trans h.size), (put_defers'.trans h.defers), (fun s k1 k2 k3 k4 k5 k6 k7 k8 => (put_getD_ne (fun e => k1 (by injection e with e; exact e.symm))).trans (h.other s k1 k2 k3 k4 k5 k6 k7 k8)), (h.below), (fun _ => put_getD_eq (by rw [h.size, hs]; decide)), (fun k => by rw [put_getD_ne (by decide)]; exact h.o2 k), (fun k => by rw [put_getD_ne (by decide)]; exact h.o3 k), (fun k => by rw [put_getD_ne (by decide)]; exact h.o4 k), (fun k => by rw [put_getD_ne (by decide)]; exact h.o1 k), (fun k => by rw [put_getD_ne (by decide)]; exact h.o5 k), (fun k => by rw [put_getD_ne (by decide)]; exact h.o6 k), (fun k => by rw [put_getD_ne (by decide)]; exact h.o7 k), (h.d16), (h.d56), (h.d17), (h.d57), (h.d67), (fun k => h.o8 k), (fun k => h.o9 k)⟩
theorem P13.op2 (h : P13 w3 pv qv rowc tp tq a0 L a w g4 g9 g10 l1 h1 l2 h2 u r) (hs : a0.tmps.size = 185) : P13 w3 pv qv rowc tp tq a0 (more L 2) (a.put (some 145) pv) w g4 g9 g10 l1 h1 l2 h2 u r := by
  refine ⟨(put_size.trans h.size), (put_defers'.trans h.defers), (fun s k1 k2 k3 k4 k5 k6 k7 k8 => (put_getD_ne (fun e => k3 (by injection e with e; exact e.symm))).trans (h.other s k1 k2 k3 k4 k5 k6 k7 k8)), (h.below), (fun k => by rw [put_getD_ne (by decide)]; exact h.o0 k), (fun _ => put_getD_eq (by rw [h.size, hs]; decide)), (fun k => by rw [put_getD_ne (by decide)]; exact h.o3 k), (fun k => by rw [put_getD_ne (by decide)]; exact h.o4 k), (fun k => by rw [put_getD_ne (by decide)]; exact h.o1 k), (fun k => by rw [put_getD_ne (by decide)]; exact h.o5 k), (fun k => by rw [put_getD_ne (by decide)]; exact h.o6 k), (fun k => by rw [put_getD_ne (by decide)]; exact h.o7 k), (h.d16), (h.d56), (h.d17), (h.d57), (h.d67), (fun k => h.o8 k), (fun k => h.o9 k)⟩
theorem P13.op3 (h : P13 w3 pv qv rowc tp tq a0 L a w g4 g9 g10 l1 h1 l2 h2 u r) (hs : a0.tmps.size = 185) : P13 w3 pv qv rowc tp tq a0 (more L 3) (a.put (some 146) qv) w g4 g9 g10 l1 h1 l2 h2 u r := by
  refine ⟨(put_size.trans h.size), (put_defers'.trans h.defers), (fun s k1 k2 k3 k4 k5 k6 k7 k8 => (put_getD_ne (fun e => k4 (by injection e with e; exact e.symm))).trans (h.other s k1 k2 k3 k4 k5 k6 k7 k8)), (h.below), (fun k => by rw [put_getD_ne (by decide)]; exact h.o0 k), (fun k => by rw [put_getD_ne (by decide)]; exact h.o2 k), (fun _ => put_getD_eq (by rw [h.size, hs]; decide)), (fun k => by rw [put_getD_ne (by decide)]; exact h.o4 k), (fun k => by rw [put_getD_ne (by decide)]; exact h.o1 k), (fun k => by rw [put_getD_ne (by decide)]; exact h.o5 k), (fun k => by rw [put_getD_ne (by decide)]; exact h.o6 k), (fun k => by rw [put_getD_ne (by decide)]; exact h.o7 k), (h.d16), (h.d56), (h.d17), (h.d57), (h.d67), (fun k => h.o8 k), (fun k => h.o9 k)⟩
theorem P13.op4 {g4' : Nat} (h : P13 w3 pv qv rowc tp tq a0 L a w g4' g9 g10 l1 h1 l2 h2 u r) (hs : a0.tmps.size = 185) (o : Obj) (ho : (w.alloc o).heap[w.heap.size]? = some rowc) : P13 w3 pv qv rowc tp tq a0 (more L 4) (a.put (some 147) (.slice (some ⟨w.heap.size, 0, none⟩) 2 2)) (w.alloc o) w.heap.size g9 g10 l1 h1 l2 h2 u r := by
  have g := h.grow (below_new w o)
  refine ⟨(put_size.trans h.size), (put_defers'.trans h.defers), (fun s k1 k2 k3 k4 k5 k6 k7 k8 => (put_getD_ne (fun e => k5 (by injection e with e; exact e.symm))).trans (h.other s k1 k2 k3 k4 k5 k6 k7 k8)), (g.below), (fun k => by rw [put_getD_ne (by decide)]; exact g.o0 k), (fun k => by rw [put_getD_ne (by decide)]; exact g.o2 k), (fun k => by rw [put_getD_ne (by decide)]; exact g.o3 k), (fun _ => ⟨put_getD_eq (by rw [h.size, hs]; decide), fun _ _ => ho⟩), (fun k => by rw [put_getD_ne (by decide)]; exact g.o1 k), (fun k => by rw [put_getD_ne (by decide)]; exact g.o5 k), (fun k => by rw [put_getD_ne (by decide)]; exact g.o6 k), (fun k => by rw [put_getD_ne (by decide)]; exact g.o7 k), (h.d16), (h.d56), (h.d17), (h.d57), (h.d67), (fun k => g.o8 k), (fun k => g.o9 k)⟩
theorem P13.op1 {u' : V} (h : P13 w3 pv qv rowc tp tq a0 L a w g4 g9 g10 l1 h1 l2 h2 u' r) (hs : a0.tmps.size = 185) (h0 : L 1 = false) (hb : Below w.heap.size w w') (hu : u.abs = tp) (hL : Lies w' w.heap.size w'.heap.size u) : P13 w3 pv qv rowc tp tq a0 (more L 1) (a.put (some 144) (.agg #[.int .i64 u.kind, .int .u64 (u.a : Int), .int .u64 (u.b : Int), .slice u.addr u.parts.length u.cap])) w' g4 g9 g10 w.heap.size w'.heap.size l2 h2 u r := by
  have g := h.grow hb
  have hb9 : ∀ {k : L 6 = true}, g9 < w.heap.size := fun {k} => by obtain ⟨_, _, x0, x1, x2, x3, e⟩ := h.o6 k; exact lt_of_block e
  have hb10 : ∀ {k : L 7 = true}, g10 < w.heap.size := fun {k} => by obtain ⟨_, _, x0, x1, x2, x3, e⟩ := h.o7 k; exact lt_of_block e
  refine ⟨(put_size.trans h.size), (put_defers'.trans h.defers), (fun s k1 k2 k3 k4 k5 k6 k7 k8 => (put_getD_ne (fun e => k2 (by injection e with e; exact e.symm))).trans (h.other s k1 k2 k3 k4 k5 k6 k7 k8)), (g.below), (fun k => by rw [put_getD_ne (by decide)]; exact g.o0 k), (fun k => by rw [put_getD_ne (by decide)]; exact g.o2 k), (fun k => by rw [put_getD_ne (by decide)]; exact g.o3 k), (fun k => by rw [put_getD_ne (by decide)]; exact g.o4 k), (fun _ => ⟨put_getD_eq (by rw [h.size, hs]; decide), hu, hL, h.below.size, Nat.le_refl _⟩), (fun k => by rw [put_getD_ne (by decide)]; exact g.o5 k), (fun k => by rw [put_getD_ne (by decide)]; exact g.o6 k), (fun k => by rw [put_getD_ne (by decide)]; exact g.o7 k), (fun _ k => .inl (hb9 (k := k))), (h.d56), (fun _ k => .inl (hb10 (k := k))), (h.d57), (h.d67), (fun k => by have := (h.o8 k).2.1; rw [h0] at this; cases this), (fun k => g.o9 k)⟩
theorem P13.op5 {r' : V} (h : P13 w3 pv qv rowc tp tq a0 L a w g4 g9 g10 l1 h1 l2 h2 u r') (hs : a0.tmps.size = 185) (h0 : L 5 = false) (hb : Below w.heap.size w w') (hr : r.abs = tq) (hL : Lies w' w.heap.size w'.heap.size r) : P13 w3 pv qv rowc tp tq a0 (more L 5) (a.put (some 148) (.agg #[.int .i64 r.kind, .int .u64 (r.a : Int), .int .u64 (r.b : Int), .slice r.addr r.parts.length r.cap])) w' g4 g9 g10 l1 h1 w.heap.size w'.heap.size u r := by
  have g := h.grow hb
  have hb9 : ∀ {k : L 6 = true}, g9 < w.heap.size := fun {k} => by obtain ⟨_, _, x0, x1, x2, x3, e⟩ := h.o6 k; exact lt_of_block e
  have hb10 : ∀ {k : L 7 = true}, g10 < w.heap.size := fun {k} => by obtain ⟨_, _, x0, x1, x2, x3, e⟩ := h.o7 k; exact lt_of_block e
  refine ⟨(put_size.trans h.size), (put_defers'.trans h.defers), (fun s k1 k2 k3 k4 k5 k6 k7 k8 => (put_getD_ne (fun e => k6 (by injection e with e; exact e.symm))).trans (h.other s k1 k2 k3 k4 k5 k6 k7 k8)), (g.below), (fun k => by rw [put_getD_ne (by decide)]; exact g.o0 k), (fun k => by rw [put_getD_ne (by decide)]; exact g.o2 k), (fun k => by rw [put_getD_ne (by decide)]; exact g.o3 k), (fun k => by rw [put_getD_ne (by decide)]; exact g.o4 k), (fun k => by rw [put_getD_ne (by decide)]; exact g.o1 k), (fun _ => ⟨put_getD_eq (by rw [h.size, hs]; decide), hr, hL, h.below.size, Nat.le_refl _⟩), (fun k => by rw [put_getD_ne (by decide)]; exact g.o6 k), (fun k => by rw [put_getD_ne (by decide)]; exact g.o7 k), (h.d16), (fun _ k => .inl (hb9 (k := k))), (h.d17), (fun _ k => .inl (hb10 (k := k))), (h.d67), (fun k => by have := (h.o8 k).2.2.1; rw [h0] at this; cases this), (fun k => by have := (h.o9 k).2.1; rw [h0] at this; cases this)⟩
theorem P13.op6 {g9' : Nat} (h : P13 w3 pv qv rowc tp tq a0 L a w g4 g9' g10 l1 h1 l2 h2 u r) (hs : a0.tmps.size = 185) (h0 : L 6 = false) (z0 z1 z2 z3 : Value) : P13 w3 pv qv rowc tp tq a0 (more L 6) (a.put (some 20) (.pointer (some ⟨w.heap.size, 0, none⟩))) (w.alloc (.cells #[z0, z1, z2, z3] 25)) g4 w.heap.size g10 l1 h1 l2 h2 u r := by
  have g := h.grow (below_new w (.cells #[z0, z1, z2, z3] 25))
  refine ⟨(put_size.trans h.size), (put_defers'.trans h.defers), (fun s k1 k2 k3 k4 k5 k6 k7 k8 => (put_getD_ne (fun e => k7 (by injection e with e; exact e.symm))).trans (h.other s k1 k2 k3 k4 k5 k6 k7 k8)), (g.below), (fun k => by rw [put_getD_ne (by decide)]; exact g.o0 k), (fun k => by rw [put_getD_ne (by decide)]; exact g.o2 k), (fun k => by rw [put_getD_ne (by decide)]; exact g.o3 k), (fun k => by rw [put_getD_ne (by decide)]; exact g.o4 k), (fun k => by rw [put_getD_ne (by decide)]; exact g.o1 k), (fun k => by rw [put_getD_ne (by decide)]; exact g.o5 k), (fun _ => ⟨put_getD_eq (by rw [h.size, hs]; decide), h.below.size, z0, z1, z2, z3, heap_alloc_new w _⟩), (fun k => by rw [put_getD_ne (by decide)]; exact g.o7 k), (fun k _ => .inr (h.o1 k).2.2.2.2), (fun k _ => .inr (h.o5 k).2.2.2.2), (h.d17), (h.d57), (fun _ k => by obtain ⟨_, _, x0, x1, x2, x3, e⟩ := h.o7 k; have := lt_of_block e; omega), (fun k => by have := (h.o8 k).1; rw [h0] at this; cases this), (fun k => g.o9 k)⟩
theorem P13.op7 {g10' : Nat} (h : P13 w3 pv qv rowc tp tq a0 L a w g4 g9 g10' l1 h1 l2 h2 u r) (hs : a0.tmps.size = 185) (h0 : L 7 = false) (z0 z1 z2 z3 : Value) : P13 w3 pv qv rowc tp tq a0 (more L 7) (a.put (some 21) (.pointer (some ⟨w.heap.size, 0, none⟩))) (w.alloc (.cells #[z0, z1, z2, z3] 25)) g4 g9 w.heap.size l1 h1 l2 h2 u r := by
  have g := h.grow (below_new w (.cells #[z0, z1, z2, z3] 25))
  refine ⟨(put_size.trans h.size), (put_defers'.trans h.defers), (fun s k1 k2 k3 k4 k5 k6 k7 k8 => (put_getD_ne (fun e => k8 (by injection e with e; exact e.symm))).trans (h.other s k1 k2 k3 k4 k5 k6 k7 k8)), (g.below), (fun k => by rw [put_getD_ne (by decide)]; exact g.o0 k), (fun k => by rw [put_getD_ne (by decide)]; exact g.o2 k), (fun k => by rw [put_getD_ne (by decide)]; exact g.o3 k), (fun k => by rw [put_getD_ne (by decide)]; exact g.o4 k), (fun k => by rw [put_getD_ne (by decide)]; exact g.o1 k), (fun k => by rw [put_getD_ne (by decide)]; exact g.o5 k), (fun k => by rw [put_getD_ne (by decide)]; exact g.o6 k), (fun _ => ⟨put_getD_eq (by rw [h.size, hs]; decide), h.below.size, z0, z1, z2, z3, heap_alloc_new w _⟩), (h.d16), (h.d56), (fun k _ => .inr (h.o1 k).2.2.2.2), (fun k _ => .inr (h.o5 k).2.2.2.2), (fun k _ => by obtain ⟨_, _, x0, x1, x2, x3, e⟩ := h.o6 k; have := lt_of_block e; omega), (fun k => g.o8 k), (fun k => by have := (h.o9 k).1; rw [h0] at this; cases this)⟩
/-- A box is written: what is said of the pair's row is given up. -/
theorem P13.store (h : P13 w3 pv qv rowc tp tq a0 L a w g4 g9 g10 l1 h1 l2 h2 u r) (i : Nat) (hi : i = 8 ∨ i = 9) (h0 : L i = false) {g : Nat} {x0 x1 x2 x3 : Value} (y0 y1 y2 y3 : Value) (hg : w.heap[g]? = some (.cells #[x0, x1, x2, x3] 25 (0, 0))) (hg3 : w3.heap.size ≤ g) (h1g : L 1 = true → g < l1 ∨ h1 ≤ g) (h5g : L 5 = true → g < l2 ∨ h2 ≤ g)
    (h8 : L 8 = true → g ≠ g9) (h9 : L 9 = true → g ≠ g10) (n8 : i = 8 → L 6 = true ∧ L 1 = true ∧ L 5 = true ∧ (put4 w g y0 y1 y2 y3).heap[g9]? = some (.cells #[.int .i64 u.kind, .int .u64 (u.a : Int), .int .u64 (u.b : Int), .slice u.addr u.parts.length u.cap] 25 (0, 0))) (n9 : i = 9 → L 7 = true ∧ L 5 = true ∧ (put4 w g y0 y1 y2 y3).heap[g10]? = some (.cells #[.int .i64 r.kind, .int .u64 (r.a : Int), .int .u64 (r.b : Int), .slice r.addr r.parts.length r.cap] 25 (0, 0))) :
    P13 w3 pv qv rowc tp tq a0 (more L i) a (put4 w g y0 y1 y2 y3) g4 g9 g10 l1 h1 l2 h2 u r := by
  have hr := put4_row hg y0 y1 y2 y3
  have lm : ∀ j, j ≠ 8 → j ≠ 9 → more L i j = L j := fun j j8 j9 => by unfold more; rw [if_neg (by omega)]
  have m0 := lm 0 (by omega) (by omega)
  have m1 := lm 1 (by omega) (by omega)
  have m2 := lm 2 (by omega) (by omega)
  have m3 := lm 3 (by omega) (by omega)
  have m4 := lm 4 (by omega) (by omega)
  have m5 := lm 5 (by omega) (by omega)
  have m6 := lm 6 (by omega) (by omega)
  have m7 := lm 7 (by omega) (by omega)
  refine ⟨h.size, h.defers, h.other, put4_below h.below hg3 _ _ _ _, fun k => h.o0 (m0 ▸ k), fun k => h.o2 (m2 ▸ k), fun k => h.o3 (m3 ▸ k), fun k => ⟨(h.o4 (m4 ▸ k)).1, fun k8 k9 => ?_⟩, fun k => ?_, fun k => ?_, fun k => ?_, fun k => ?_, fun k k' => h.d16 (m1 ▸ k) (m6 ▸ k'), fun k k' => h.d56 (m5 ▸ k) (m6 ▸ k'), fun k k' => h.d17 (m1 ▸ k) (m7 ▸ k'), fun k k' => h.d57 (m5 ▸ k) (m7 ▸ k'), fun k k' => h.d67 (m6 ▸ k) (m7 ▸ k'), fun k => ?_, fun k => ?_⟩
  · exfalso
    rcases hi with rfl | rfl
    · simp [more] at k8
    · simp [more] at k9
  · obtain ⟨e1, e2, e3, e4, e5⟩ := h.o1 (m1 ▸ k)
    exact ⟨e1, e2, e3.keep fun p k1 k2 => World.cell?_of_block (put4_else w (by have := h1g (m1 ▸ k); omega) _ _ _ _), e4, by rw [put4_size]; exact e5⟩
  · obtain ⟨e1, e2, e3, e4, e5⟩ := h.o5 (m5 ▸ k)
    exact ⟨e1, e2, e3.keep fun p k1 k2 => World.cell?_of_block (put4_else w (by have := h5g (m5 ▸ k); omega) _ _ _ _), e4, by rw [put4_size]; exact e5⟩
  · obtain ⟨e1, e2, v0, v1, v2, v3, e3⟩ := h.o6 (m6 ▸ k)
    by_cases e : g9 = g
    · subst e; exact ⟨e1, e2, _, _, _, _, hr⟩
    · exact ⟨e1, e2, v0, v1, v2, v3, (put4_else w e _ _ _ _).trans e3⟩
  · obtain ⟨e1, e2, v0, v1, v2, v3, e3⟩ := h.o7 (m7 ▸ k)
    by_cases e : g10 = g
    · subst e; exact ⟨e1, e2, _, _, _, _, hr⟩
    · exact ⟨e1, e2, v0, v1, v2, v3, (put4_else w e _ _ _ _).trans e3⟩
  · rw [m6, m1, m5]
    by_cases e8 : i = 8
    · exact n8 e8
    · have k' : L 8 = true := by unfold more at k; rwa [if_neg (fun e => e8 e.symm)] at k
      obtain ⟨e1, e2, e4, e3⟩ := h.o8 k'
      exact ⟨e1, e2, e4, (put4_else w (fun e => h8 k' e.symm) _ _ _ _).trans e3⟩
  · rw [m7, m5]
    by_cases e9 : i = 9
    · exact n9 e9
    · have k' : L 9 = true := by unfold more at k; rwa [if_neg (fun e => e9 e.symm)] at k
      obtain ⟨e1, e2, e3⟩ := h.o9 k'
      exact ⟨e1, e2, (put4_else w (fun e => h9 k' e.symm) _ _ _ _).trans e3⟩
theorem P13.op8 (h : P13 w3 pv qv rowc tp tq a0 L a w g4 g9 g10 l1 h1 l2 h2 u r) (h0 : L 8 = false) (k1 : L 1 = true) (k5 : L 5 = true) (k6 : L 6 = true) (k7 : L 7 = true) :
    P13 w3 pv qv rowc tp tq a0 (more L 8) a (put4 w g9 (.int .i64 u.kind) (.int .u64 (u.a : Int)) (.int .u64 (u.b : Int)) (.slice u.addr u.parts.length u.cap)) g4 g9 g10 l1 h1 l2 h2 u r := by
  obtain ⟨_, e2, x0, x1, x2, x3, e3⟩ := h.o6 k6
  exact h.store 8 (.inl rfl) h0 _ _ _ _ e3 e2 (fun k => h.d16 k k6) (fun k => h.d56 k k6) (fun k => by rw [h0] at k; cases k) (fun _ => h.d67 k6 k7) (fun _ => ⟨k6, k1, k5, put4_row e3 _ _ _ _⟩) (fun e => by omega)
theorem P13.op9 (h : P13 w3 pv qv rowc tp tq a0 L a w g4 g9 g10 l1 h1 l2 h2 u r) (h0 : L 9 = false) (k5 : L 5 = true) (k6 : L 6 = true) (k7 : L 7 = true) :
    P13 w3 pv qv rowc tp tq a0 (more L 9) a (put4 w g10 (.int .i64 r.kind) (.int .u64 (r.a : Int)) (.int .u64 (r.b : Int)) (.slice r.addr r.parts.length r.cap)) g4 g9 g10 l1 h1 l2 h2 u r := by
  obtain ⟨_, e2, x0, x1, x2, x3, e3⟩ := h.o7 k7
  exact h.store 9 (.inr rfl) h0 _ _ _ _ e3 e2 (fun k => h.d17 k k7) (fun k => h.d57 k k7) (fun _ e => h.d67 k6 k7 e.symm) (fun k => by rw [h0] at k; cases k) (fun e => by omega) (fun _ => ⟨k7, k5, put4_row e3 _ _ _ _⟩)
end
theorem P13.act {w3 : World} {pv qv : Value} {rowc : Obj} {tp tq : T} {a0 : Act} {L : Nat → Bool} {a : Act} {w : World} {g4 g9 g10 l1 h1 l2 h2 : Nat} {u r : V} (h : P13 w3 pv qv rowc tp tq a0 L a w g4 g9 g10 l1 h1 l2 h2 u r) (hs : a0.tmps.size = 185) (hL : ∀ i, i < 10 → L i = true) :
    a = ((((((((a0.put (some 143) pv).put (some 144) (.agg #[.int .i64 u.kind, .int .u64 (u.a : Int), .int .u64 (u.b : Int), .slice u.addr u.parts.length u.cap])).put (some 145) pv).put (some 146) qv).put (some 147) (.slice (some ⟨g4, 0, none⟩) 2 2)).put (some 148) (.agg #[.int .i64 r.kind, .int .u64 (r.a : Int), .int .u64 (r.b : Int), .slice r.addr r.parts.length r.cap])).put (some 20) (.pointer (some ⟨g9, 0, none⟩))).put (some 21) (.pointer (some ⟨g10, 0, none⟩))) := by
  have k143 := h.o0 (hL 0 (by omega))
  have k144 := (h.o1 (hL 1 (by omega))).1
  have k145 := h.o2 (hL 2 (by omega))
  have k146 := h.o3 (hL 3 (by omega))
  have k147 := (h.o4 (hL 4 (by omega))).1
  have k148 := (h.o5 (hL 5 (by omega))).1
  have k20 := (h.o6 (hL 6 (by omega))).1
  have k21 := (h.o7 (hL 7 (by omega))).1
  refine act_eq ?_ ?_ fun s => ?_
  · rw [put_size, put_size, put_size, put_size, put_size, put_size, put_size, put_size]; exact h.size
  · rw [put_defers', put_defers', put_defers', put_defers', put_defers', put_defers', put_defers', put_defers']; exact h.defers
  · by_cases e21 : s = 21
    · subst e21
      rw [put_getD_eq (by rw [put_size, put_size, put_size, put_size, put_size, put_size, put_size, hs]; decide)]
      exact k21
    rw [put_getD_ne (fun e => e21 (by injection e with e; exact e.symm))]
    by_cases e20 : s = 20
    · subst e20
      rw [put_getD_eq (by rw [put_size, put_size, put_size, put_size, put_size, put_size, hs]; decide)]
      exact k20
    rw [put_getD_ne (fun e => e20 (by injection e with e; exact e.symm))]
    by_cases e148 : s = 148
    · subst e148
      rw [put_getD_eq (by rw [put_size, put_size, put_size, put_size, put_size, hs]; decide)]
      exact k148
    rw [put_getD_ne (fun e => e148 (by injection e with e; exact e.symm))]
    by_cases e147 : s = 147
    · subst e147
      rw [put_getD_eq (by rw [put_size, put_size, put_size, put_size, hs]; decide)]
      exact k147
    rw [put_getD_ne (fun e => e147 (by injection e with e; exact e.symm))]
    by_cases e146 : s = 146
    · subst e146
      rw [put_getD_eq (by rw [put_size, put_size, put_size, hs]; decide)]
      exact k146
    rw [put_getD_ne (fun e => e146 (by injection e with e; exact e.symm))]
    by_cases e145 : s = 145
    · subst e145
      rw [put_getD_eq (by rw [put_size, put_size, hs]; decide)]
      exact k145
    rw [put_getD_ne (fun e => e145 (by injection e with e; exact e.symm))]
    by_cases e144 : s = 144
    · subst e144
      rw [put_getD_eq (by rw [put_size, hs]; decide)]
      exact k144
    rw [put_getD_ne (fun e => e144 (by injection e with e; exact e.symm))]
    by_cases e143 : s = 143
    · subst e143
      rw [put_getD_eq (by rw [hs]; decide)]
      exact k143
    rw [put_getD_ne (fun e => e143 (by injection e with e; exact e.symm))]
    exact h.other s e143 e144 e145 e146 e147 e148 e20 e21

end Go.Proofs.YtiijdacnfhiagaaGreatDoor
