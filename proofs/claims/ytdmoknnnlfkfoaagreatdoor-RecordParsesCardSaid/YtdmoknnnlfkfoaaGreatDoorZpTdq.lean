/-
  Layer 4: Parse, the program's and the document's, where Take is known.
  Layer 4: what stands is taken as it was, plainly.
  Layer 4: what bytes are taken as stands as those bytes, plainly.
  Layer 4: a tree's text, plainly.
  Layer 4: rows of strings of the call's own; strings.Join of one.
  Layer 4: the program's tell, and Text.
  Layer 5: how a record is told, plainly.
  Layer 4: the document's Digits, begins, value.
  Layer 4: the document's told, and Text.
  A number of one digit, as it is told.
  Layer 4: the document's value.
  Layer 4: the document's read, plainly.
-/
import Derived.Test.YtdmoknnnlfkfoaaGreatDoorZpTdk
import Derived.Test.YtdmoknnnlfkfoaaGreatDoorZpTcf
import Derived.Test.YtdmoknnnlfkfoaaGreatDoorZpVsb
import Derived.Test.YtdmoknnnlfkfoaaGreatDoorZpTtt
import Derived.Test.YtdmoknnnlfkfoaaGreatDoorZpTp4
import Derived.Lib.Join
import Derived.Lib.ItoaLen
import Derived.Test.YtdmoknnnlfkfoaaGreatDoorZpTse
import Derived.Test.YtdmoknnnlfkfoaaGreatDoorZpTrw
import Derived.Test.YtdmoknnnlfkfoaaGreatDoorZpTpb
import Derived.Deep.RegionHeld3
import Derived.Test.YtdmoknnnlfkfoaaGreatDoorZpUsl
import Derived.Test.YtdmoknnnlfkfoaaGreatDoorZpTko
import Derived.BigQuiet
import Derived.Test.YtdmoknnnlfkfoaaGreatDoorZpTnq

namespace Go.Proofs.YtdmoknnnlfkfoaaGreatDoor
open Go Go.RowKit
set_option linter.unusedVariables false
def parseT (l : List Nat) : Option T := (takeT l 0).bind fun x => if x.2 = l.length then some x.1 else none
set_option maxRecDepth 100000 in
theorem pparse_ret {Q : Ending → World → Prop} {W : World} {h0 : Nat} {z : Int} {x0 x1 x2 x3 : Value} (HR2 : W.heap[h0]? = some (.cells #[x0, x1, x2, x3] 44 (0, 0))) (HF2 : Q (.returned (.tuple #[.agg #[x0, x1, x2, x3], .int .i64 z])) W)
    (tmps : Array Value) (h2 : tmps.getD 2 undef = .pointer (some ⟨h0, 0, none⟩)) (h3 : tmps.getD 3 undef = .int .i64 z) : bodyPost Tryz.prog Tryz.f178 Q .ret { tmps := tmps, defers := [] } W := by
  rw [Array.getD_eq_getD_getElem?] at h2 h3
  have d0 := cell_of_row W _ 0 _ _ _ HR2
  have d1 := cell_of_row W _ 1 _ _ _ HR2
  have d2 := cell_of_row W _ 2 _ _ _ HR2
  have d3 := cell_of_row W _ 3 _ _ _ HR2
  simp at d0 d1 d2 d3
  exact bodyPost_ret (v := .tuple #[.agg #[x0, x1, x2, x3], .int .i64 z]) (by simp [results, Tryz.results178, go_sem, h2, h3, d0, d1, d2, d3]) rfl HF2
set_option maxRecDepth 100000 in
set_option maxHeartbeats 3200000 in
theorem pParse_any (l : List Nat) (Ab : Option Addr) (nb cb : Nat) (hln : l.length = nb) (w : World) (hTk : ∀ W, Below w.heap.size w W → Calls Tryz.prog 200 #[.slice Ab nb cb, .int .i64 0] W (TkEnd 44 (ansK (takeT l 0)) W)) :
    Calls Tryz.prog 178 #[.slice Ab nb cb] w (AnsEnd 44 (ansT (parseT l)) w) := by
  obtain ⟨w1, hw1⟩ : ∃ w1, w1 = w.alloc (.cells #[.int .i64 0, .int .u64 0, .int .u64 0, .slice none 0 0] 44) := ⟨_, rfl⟩
  have q1 := heap_alloc_new w (.cells #[.int .i64 0, .int .u64 0, .int .u64 0, .slice none 0 0] 44)
  have b1 := below_new w (.cells #[.int .i64 0, .int .u64 0, .int .u64 0, .slice none 0 0] 44)
  have s1 : w1.heap.size = w.heap.size + 1 := by rw [hw1]; simp
  rw [← hw1] at q1 b1
  have TK0 := hTk w1 b1
  obtain ⟨t, r, z, ho⟩ : ∃ t r z, ansK (takeT l 0) = (t, r, z) := ⟨_, _, _, rfl⟩
  rw [ho] at TK0
  have TK : Calls Tryz.prog 200 #[.slice Ab nb cb, .int .i64 0] w1 fun e w' => ∃ u : V, e = .returned (.tuple #[.agg #[.int .i64 u.kind, .int .u64 (u.a : Int), .int .u64 (u.b : Int), .slice u.addr u.parts.length u.cap], .int .i64 (r : Int), .int .i64 (z : Int)]) ∧ u.abs = t ∧ Lies w' w1.heap.size w'.heap.size u ∧ Shp 44 w' w1.heap.size u ∧ Below w1.heap.size w1 w' := TK0
  have hpo : (z = 0 ∧ r = nb → ansT (parseT l) = (t, 0)) ∧ (¬ (z = 0 ∧ r = nb) → ansT (parseT l) = (.node 0 0 0 [], 40)) := by
    unfold parseT
    cases h : takeT l 0 with
    | none =>
      rw [h] at ho
      injection ho with _ ho
      injection ho with _ ho
      refine ⟨fun h => by omega, fun _ => rfl⟩
    | some x =>
      obtain ⟨t', r'⟩ := x
      rw [h] at ho
      injection ho with e1 ho
      injection ho with e2 e3
      subst e1 e2 e3
      refine ⟨fun h => ?_, fun h => ?_⟩
      · rw [Option.bind_some, if_pos (show r' = l.length by omega)]; rfl
      · rw [Option.bind_some, if_neg (show ¬ r' = l.length by omega)]; rfl
  have HPO := Lib_hid hpo
  clear hpo TK0 ho hTk
  generalize ansT (parseT l) = o at *
  have HBADEND : Hid (∀ W : World, W.heap[w.heap.size]? = some (.cells #[.int .i64 0, .int .u64 0, .int .u64 0, .slice none 0 0] 44 (0, 0)) → Below w.heap.size w W → ¬ (z = 0 ∧ r = nb) →
      AnsEnd 44 o w (.returned (.tuple #[.agg #[.int .i64 0, .int .u64 0, .int .u64 0, .slice none 0 0], .int .i64 40])) (put4 W w.heap.size (.int .i64 0) (.int .u64 0) (.int .u64 0) (.slice none 0 0)) ∧
      (put4 W w.heap.size (.int .i64 0) (.int .u64 0) (.int .u64 0) (.slice none 0 0)).heap[w.heap.size]? = some (.cells #[.int .i64 0, .int .u64 0, .int .u64 0, .slice none 0 0] 44 (0, 0))) := by
    intro W h1 h2 h3
    rw [HPO.out.2 h3]
    exact ⟨⟨.node 0 0 0 none 0 [], rfl, by simp [V.abs, V.absL], zero_lies _ _ _, zero_shp _ _ _, put4_below h2 (Nat.le_refl _) _ _ _ _⟩, put4_row h1 _ _ _ _⟩
  subst hw1
  go_enter Tryz.func178, Tryz.ntmps178
  go_upto_region 1 with (fail)
  generalize w.alloc (.cells #[.int .i64 0, .int .u64 0, .int .u64 0, .slice none 0 0] 44) = w1 at *
  go_wp2_with fail
  refine TK.mono ?_
  rintro e w2 ⟨u, rfl, hu, hL, hS, hb2⟩
  have s2 := hb2.size
  have q2 := (hb2.block w.heap.size (by omega)).trans q1
  have hbw2 := b1.trans (hb2.mono (by omega))
  have b3 := below_new w2 (.cells #[.int .i64 u.kind, .int .u64 (u.a : Int), .int .u64 (u.b : Int), .slice u.addr u.parts.length u.cap] 44)
  have r3 := heap_alloc_new w2 (.cells #[.int .i64 u.kind, .int .u64 (u.a : Int), .int .u64 (u.b : Int), .slice u.addr u.parts.length u.cap] 44)
  have q3 := (b3.block w.heap.size (by omega)).trans q2
  have hbw3 := hbw2.trans (b3.mono (by omega))
  have HLS := Lib_hid (And.intro hu (And.intro (hL.under b3) (hS.under b3)))
  have hs3 := b3.size
  clear TK hb2 hL hS hu q2 hbw2 b3 q1 b1
  go_upto_region 2 with (fail)
  generalize w2.alloc (.cells #[.int .i64 u.kind, .int .u64 (u.a : Int), .int .u64 (u.b : Int), .slice u.addr u.parts.length u.cap] 44) = w3 at *
  have e0 := cell_of_row w3 _ 0 _ _ _ q3
  have e1 := cell_of_row w3 _ 1 _ _ _ q3
  have e2 := cell_of_row w3 _ 2 _ _ _ q3
  have e3 := cell_of_row w3 _ 3 _ _ _ q3
  have y0 := frozen_of_row w3 w.heap.size 0 _ _ q3
  have y1 := frozen_of_row w3 w.heap.size 1 _ _ q3
  have y2 := frozen_of_row w3 w.heap.size 2 _ _ q3
  have y3 := frozen_of_row w3 w.heap.size 3 _ _ q3
  simp at e0 e1 e2 e3
  by_cases hz : z = 0
  · subst hz
    by_cases hr : r = nb
    · subst hr
      have f0 := cell_of_row w3 _ 0 _ _ _ r3
      have f1 := cell_of_row w3 _ 1 _ _ _ r3
      have f2 := cell_of_row w3 _ 2 _ _ _ r3
      have f3 := cell_of_row w3 _ 3 _ _ _ r3
      simp at f0 f1 f2 f3
      have HX : Hid (AnsEnd 44 o w (.returned (.tuple #[.agg #[.int .i64 u.kind, .int .u64 (u.a : Int), .int .u64 (u.b : Int), .slice u.addr u.parts.length u.cap], .int .i64 0])) (put4 w3 w.heap.size (.int .i64 u.kind) (.int .u64 (u.a : Int)) (.int .u64 (u.b : Int)) (.slice u.addr u.parts.length u.cap)) ∧
          (put4 w3 w.heap.size (.int .i64 u.kind) (.int .u64 (u.a : Int)) (.int .u64 (u.b : Int)) (.slice u.addr u.parts.length u.cap)).heap[w.heap.size]? = some (.cells #[.int .i64 u.kind, .int .u64 (u.a : Int), .int .u64 (u.b : Int), .slice u.addr u.parts.length u.cap] 44 (0, 0))) := by
        obtain ⟨hu, hL4, hS4⟩ := HLS.out
        rw [HPO.out.1 ⟨rfl, rfl⟩]
        refine ⟨⟨u, rfl, hu, ?_, ?_, put4_below hbw3 (Nat.le_refl _) _ _ _ _⟩, put4_row q3 _ _ _ _⟩
        · rw [put4_size]
          exact (hL4.keep fun p h1 _ => World.cell?_of_block (put4_else w3 (by omega) _ _ _ _)).more (by omega) (by omega)
        · exact (Shp.keepL _ hL4 hS4 fun g' h1 _ => put4_else w3 (by omega) _ _ _ _).more (by omega)
      clear q3 r3 hbw3 HLS HBADEND HPO
      generalize u.addr = uA at *
      generalize u.cap = uc at *
      generalize u.parts.length = un at *
      generalize u.kind = uk at *
      generalize (u.a : Int) = ua at *
      generalize (u.b : Int) = ub at *
      go_wp2_with fail
      show bodyPost _ _ _ _ _ (put4 w3 w.heap.size (.int .i64 uk) (.int .u64 ua) (.int .u64 ub) (.slice uA un uc))
      have HX2 := HX.out
      clear HX e0 e1 e2 e3 y0 y1 y2 y3 f0 f1 f2 f3
      generalize put4 w3 w.heap.size (.int .i64 uk) (.int .u64 ua) (.int .u64 ub) (.slice uA un uc) = W2 at *
      exact pparse_ret (z := 0) HX2.2 HX2.1 _ rfl rfl
    · have HX := Lib_hid (HBADEND.out w3 q3 hbw3 (fun h => hr h.2))
      have hrI : ¬ (r : Int) = (nb : Int) := by omega
      have hrB : ((r : Int) == (nb : Int)) = false := by simp; omega
      have hrC : ((r : Int) != (nb : Int)) = true := by simp; omega
      clear q3 r3 hbw3 HLS HBADEND HPO
      generalize u.addr = uA at *
      generalize u.cap = uc at *
      generalize u.parts.length = un at *
      generalize u.kind = uk at *
      generalize (u.a : Int) = ua at *
      generalize (u.b : Int) = ub at *
      go_wp2_with fail
      show bodyPost _ _ _ _ _ (put4 w3 w.heap.size (.int .i64 0) (.int .u64 0) (.int .u64 0) (.slice none 0 0))
      have HX2 := HX.out
      clear HX e0 e1 e2 e3 y0 y1 y2 y3
      generalize put4 w3 w.heap.size (.int .i64 0) (.int .u64 0) (.int .u64 0) (.slice none 0 0) = W2 at *
      exact pparse_ret (z := 40) HX2.2 HX2.1 _ rfl rfl
  · have HX := Lib_hid (HBADEND.out w3 q3 hbw3 (fun h => hz h.1))
    have hrI : ¬ (z : Int) = 0 := by omega
    have hrB : ((z : Int) == 0) = false := by simp; omega
    have hrC : ((z : Int) != 0) = true := by simp; omega
    clear q3 r3 hbw3 HLS HBADEND HPO
    generalize u.addr = uA at *
    generalize u.cap = uc at *
    generalize u.parts.length = un at *
    generalize u.kind = uk at *
    generalize (u.a : Int) = ua at *
    generalize (u.b : Int) = ub at *
    go_wp2_with fail
    show bodyPost _ _ _ _ _ (put4 w3 w.heap.size (.int .i64 0) (.int .u64 0) (.int .u64 0) (.slice none 0 0))
    have HX2 := HX.out
    clear HX e0 e1 e2 e3 y0 y1 y2 y3
    generalize put4 w3 w.heap.size (.int .i64 0) (.int .u64 0) (.int .u64 0) (.slice none 0 0) = W2 at *
    exact pparse_ret (z := 40) HX2.2 HX2.1 _ rfl rfl
set_option maxRecDepth 100000 in
theorem rparse_ret {Q : Ending → World → Prop} {W : World} {h0 : Nat} {z : Int} {x0 x1 x2 x3 : Value} (HR2 : W.heap[h0]? = some (.cells #[x0, x1, x2, x3] 34 (0, 0))) (HF2 : Q (.returned (.tuple #[.agg #[x0, x1, x2, x3], .int .i64 z])) W)
    (tmps : Array Value) (h2 : tmps.getD 2 undef = .pointer (some ⟨h0, 0, none⟩)) (h3 : tmps.getD 3 undef = .int .i64 z) : bodyPost Tryz.prog Tryz.f56 Q .ret { tmps := tmps, defers := [] } W := by
  rw [Array.getD_eq_getD_getElem?] at h2 h3
  have d0 := cell_of_row W _ 0 _ _ _ HR2
  have d1 := cell_of_row W _ 1 _ _ _ HR2
  have d2 := cell_of_row W _ 2 _ _ _ HR2
  have d3 := cell_of_row W _ 3 _ _ _ HR2
  simp at d0 d1 d2 d3
  exact bodyPost_ret (v := .tuple #[.agg #[x0, x1, x2, x3], .int .i64 z]) (by simp [results, Tryz.results56, go_sem, h2, h3, d0, d1, d2, d3]) rfl HF2
set_option maxRecDepth 100000 in
set_option maxHeartbeats 3200000 in
theorem rParse_any (l : List Nat) (Ab : Option Addr) (nb cb : Nat) (hln : l.length = nb) (w : World) (hTk : ∀ W, Below w.heap.size w W → Calls Tryz.prog 84 #[.slice Ab nb cb, .int .i64 0] W (TkEnd 34 (ansK (takeT l 0)) W)) :
    Calls Tryz.prog 56 #[.slice Ab nb cb] w (AnsEnd 34 (ansT (parseT l)) w) := by
  obtain ⟨w1, hw1⟩ : ∃ w1, w1 = w.alloc (.cells #[.int .i64 0, .int .u64 0, .int .u64 0, .slice none 0 0] 34) := ⟨_, rfl⟩
  have q1 := heap_alloc_new w (.cells #[.int .i64 0, .int .u64 0, .int .u64 0, .slice none 0 0] 34)
  have b1 := below_new w (.cells #[.int .i64 0, .int .u64 0, .int .u64 0, .slice none 0 0] 34)
  have s1 : w1.heap.size = w.heap.size + 1 := by rw [hw1]; simp
  rw [← hw1] at q1 b1
  have TK0 := hTk w1 b1
  obtain ⟨t, r, z, ho⟩ : ∃ t r z, ansK (takeT l 0) = (t, r, z) := ⟨_, _, _, rfl⟩
  rw [ho] at TK0
  have TK : Calls Tryz.prog 84 #[.slice Ab nb cb, .int .i64 0] w1 fun e w' => ∃ u : V, e = .returned (.tuple #[.agg #[.int .i64 u.kind, .int .u64 (u.a : Int), .int .u64 (u.b : Int), .slice u.addr u.parts.length u.cap], .int .i64 (r : Int), .int .i64 (z : Int)]) ∧ u.abs = t ∧ Lies w' w1.heap.size w'.heap.size u ∧ Shp 34 w' w1.heap.size u ∧ Below w1.heap.size w1 w' := TK0
  have hpo : (z = 0 ∧ r = nb → ansT (parseT l) = (t, 0)) ∧ (¬ (z = 0 ∧ r = nb) → ansT (parseT l) = (.node 0 0 0 [], 40)) := by
    unfold parseT
    cases h : takeT l 0 with
    | none =>
      rw [h] at ho
      injection ho with _ ho
      injection ho with _ ho
      refine ⟨fun h => by omega, fun _ => rfl⟩
    | some x =>
      obtain ⟨t', r'⟩ := x
      rw [h] at ho
      injection ho with e1 ho
      injection ho with e2 e3
      subst e1 e2 e3
      refine ⟨fun h => ?_, fun h => ?_⟩
      · rw [Option.bind_some, if_pos (show r' = l.length by omega)]; rfl
      · rw [Option.bind_some, if_neg (show ¬ r' = l.length by omega)]; rfl
  have HPO := Lib_hid hpo
  clear hpo TK0 ho hTk
  generalize ansT (parseT l) = o at *
  have HBADEND : Hid (∀ W : World, W.heap[w.heap.size]? = some (.cells #[.int .i64 0, .int .u64 0, .int .u64 0, .slice none 0 0] 34 (0, 0)) → Below w.heap.size w W → ¬ (z = 0 ∧ r = nb) →
      AnsEnd 34 o w (.returned (.tuple #[.agg #[.int .i64 0, .int .u64 0, .int .u64 0, .slice none 0 0], .int .i64 40])) (put4 W w.heap.size (.int .i64 0) (.int .u64 0) (.int .u64 0) (.slice none 0 0)) ∧
      (put4 W w.heap.size (.int .i64 0) (.int .u64 0) (.int .u64 0) (.slice none 0 0)).heap[w.heap.size]? = some (.cells #[.int .i64 0, .int .u64 0, .int .u64 0, .slice none 0 0] 34 (0, 0))) := by
    intro W h1 h2 h3
    rw [HPO.out.2 h3]
    exact ⟨⟨.node 0 0 0 none 0 [], rfl, by simp [V.abs, V.absL], zero_lies _ _ _, zero_shp _ _ _, put4_below h2 (Nat.le_refl _) _ _ _ _⟩, put4_row h1 _ _ _ _⟩
  subst hw1
  go_enter Tryz.func56, Tryz.ntmps56
  go_upto_region 1 with (fail)
  generalize w.alloc (.cells #[.int .i64 0, .int .u64 0, .int .u64 0, .slice none 0 0] 34) = w1 at *
  go_wp2_with fail
  refine TK.mono ?_
  rintro e w2 ⟨u, rfl, hu, hL, hS, hb2⟩
  have s2 := hb2.size
  have q2 := (hb2.block w.heap.size (by omega)).trans q1
  have hbw2 := b1.trans (hb2.mono (by omega))
  have b3 := below_new w2 (.cells #[.int .i64 u.kind, .int .u64 (u.a : Int), .int .u64 (u.b : Int), .slice u.addr u.parts.length u.cap] 34)
  have r3 := heap_alloc_new w2 (.cells #[.int .i64 u.kind, .int .u64 (u.a : Int), .int .u64 (u.b : Int), .slice u.addr u.parts.length u.cap] 34)
  have q3 := (b3.block w.heap.size (by omega)).trans q2
  have hbw3 := hbw2.trans (b3.mono (by omega))
  have HLS := Lib_hid (And.intro hu (And.intro (hL.under b3) (hS.under b3)))
  have hs3 := b3.size
  clear TK hb2 hL hS hu q2 hbw2 b3 q1 b1
  go_upto_region 2 with (fail)
  generalize w2.alloc (.cells #[.int .i64 u.kind, .int .u64 (u.a : Int), .int .u64 (u.b : Int), .slice u.addr u.parts.length u.cap] 34) = w3 at *
  have e0 := cell_of_row w3 _ 0 _ _ _ q3
  have e1 := cell_of_row w3 _ 1 _ _ _ q3
  have e2 := cell_of_row w3 _ 2 _ _ _ q3
  have e3 := cell_of_row w3 _ 3 _ _ _ q3
  have y0 := frozen_of_row w3 w.heap.size 0 _ _ q3
  have y1 := frozen_of_row w3 w.heap.size 1 _ _ q3
  have y2 := frozen_of_row w3 w.heap.size 2 _ _ q3
  have y3 := frozen_of_row w3 w.heap.size 3 _ _ q3
  simp at e0 e1 e2 e3
  by_cases hz : z = 0
  · subst hz
    by_cases hr : r = nb
    · subst hr
      have f0 := cell_of_row w3 _ 0 _ _ _ r3
      have f1 := cell_of_row w3 _ 1 _ _ _ r3
      have f2 := cell_of_row w3 _ 2 _ _ _ r3
      have f3 := cell_of_row w3 _ 3 _ _ _ r3
      simp at f0 f1 f2 f3
      have HX : Hid (AnsEnd 34 o w (.returned (.tuple #[.agg #[.int .i64 u.kind, .int .u64 (u.a : Int), .int .u64 (u.b : Int), .slice u.addr u.parts.length u.cap], .int .i64 0])) (put4 w3 w.heap.size (.int .i64 u.kind) (.int .u64 (u.a : Int)) (.int .u64 (u.b : Int)) (.slice u.addr u.parts.length u.cap)) ∧
          (put4 w3 w.heap.size (.int .i64 u.kind) (.int .u64 (u.a : Int)) (.int .u64 (u.b : Int)) (.slice u.addr u.parts.length u.cap)).heap[w.heap.size]? = some (.cells #[.int .i64 u.kind, .int .u64 (u.a : Int), .int .u64 (u.b : Int), .slice u.addr u.parts.length u.cap] 34 (0, 0))) := by
        obtain ⟨hu, hL4, hS4⟩ := HLS.out
        rw [HPO.out.1 ⟨rfl, rfl⟩]
        refine ⟨⟨u, rfl, hu, ?_, ?_, put4_below hbw3 (Nat.le_refl _) _ _ _ _⟩, put4_row q3 _ _ _ _⟩
        · rw [put4_size]
          exact (hL4.keep fun p h1 _ => World.cell?_of_block (put4_else w3 (by omega) _ _ _ _)).more (by omega) (by omega)
        · exact (Shp.keepL _ hL4 hS4 fun g' h1 _ => put4_else w3 (by omega) _ _ _ _).more (by omega)
      clear q3 r3 hbw3 HLS HBADEND HPO
      generalize u.addr = uA at *
      generalize u.cap = uc at *
      generalize u.parts.length = un at *
      generalize u.kind = uk at *
      generalize (u.a : Int) = ua at *
      generalize (u.b : Int) = ub at *
      go_wp2_with fail
      show bodyPost _ _ _ _ _ (put4 w3 w.heap.size (.int .i64 uk) (.int .u64 ua) (.int .u64 ub) (.slice uA un uc))
      have HX2 := HX.out
      clear HX e0 e1 e2 e3 y0 y1 y2 y3 f0 f1 f2 f3
      generalize put4 w3 w.heap.size (.int .i64 uk) (.int .u64 ua) (.int .u64 ub) (.slice uA un uc) = W2 at *
      exact rparse_ret (z := 0) HX2.2 HX2.1 _ rfl rfl
    · have HX := Lib_hid (HBADEND.out w3 q3 hbw3 (fun h => hr h.2))
      have hrI : ¬ (r : Int) = (nb : Int) := by omega
      have hrB : ((r : Int) == (nb : Int)) = false := by simp; omega
      have hrC : ((r : Int) != (nb : Int)) = true := by simp; omega
      clear q3 r3 hbw3 HLS HBADEND HPO
      generalize u.addr = uA at *
      generalize u.cap = uc at *
      generalize u.parts.length = un at *
      generalize u.kind = uk at *
      generalize (u.a : Int) = ua at *
      generalize (u.b : Int) = ub at *
      go_wp2_with fail
      show bodyPost _ _ _ _ _ (put4 w3 w.heap.size (.int .i64 0) (.int .u64 0) (.int .u64 0) (.slice none 0 0))
      have HX2 := HX.out
      clear HX e0 e1 e2 e3 y0 y1 y2 y3
      generalize put4 w3 w.heap.size (.int .i64 0) (.int .u64 0) (.int .u64 0) (.slice none 0 0) = W2 at *
      exact rparse_ret (z := 40) HX2.2 HX2.1 _ rfl rfl
  · have HX := Lib_hid (HBADEND.out w3 q3 hbw3 (fun h => hz h.1))
    have hrI : ¬ (z : Int) = 0 := by omega
    have hrB : ((z : Int) == 0) = false := by simp; omega
    have hrC : ((z : Int) != 0) = true := by simp; omega
    clear q3 r3 hbw3 HLS HBADEND HPO
    generalize u.addr = uA at *
    generalize u.cap = uc at *
    generalize u.parts.length = un at *
    generalize u.kind = uk at *
    generalize (u.a : Int) = ua at *
    generalize (u.b : Int) = ub at *
    go_wp2_with fail
    show bodyPost _ _ _ _ _ (put4 w3 w.heap.size (.int .i64 0) (.int .u64 0) (.int .u64 0) (.slice none 0 0))
    have HX2 := HX.out
    clear HX e0 e1 e2 e3 y0 y1 y2 y3
    generalize put4 w3 w.heap.size (.int .i64 0) (.int .u64 0) (.int .u64 0) (.slice none 0 0) = W2 at *
    exact rparse_ret (z := 40) HX2.2 HX2.1 _ rfl rfl
end Go.Proofs.YtdmoknnnlfkfoaaGreatDoor

namespace Go.Proofs.YtdmoknnnlfkfoaaGreatDoor
open Go Go.RowKit
set_option linter.unusedVariables false
end Go.Proofs.YtdmoknnnlfkfoaaGreatDoor

namespace Go.Proofs.YtdmoknnnlfkfoaaGreatDoor
open Go Go.RowKit
set_option linter.unusedVariables false
theorem numT_some {l : List Nat} (hb : ∀ x ∈ l, x < 256) {a v r : Nat} (h : numT l a = some (v, r)) : v < 18446744073709551616 ∧ l.drop a = enc v ++ l.drop r ∧ r = a + (enc v).length ∧ r ≤ l.length := by
  have hlt := numT_lt hb h
  unfold numT at h
  split at h
  · rename_i hz
    injection h with h
    injection h with h1 h2
    unfold getS at hz h1 h2
    split at hz
    · cases hz
    · rename_i ho
      rw [if_neg ho] at h1 h2
      rw [Int.toNat_natCast] at hz h1 h2
      cases hg : got (l.drop a) with
      | num x k =>
        rw [hg] at h1 h2
        simp only [ans] at h1 h2
        subst h1 h2
        obtain ⟨q1, q2, q3⟩ := got_put (fun x hx => hb x (List.mem_of_mem_drop hx)) hg
        rw [List.length_drop] at q1
        have hlen : (enc x).length = k := by rw [q2, List.length_take, List.length_drop]; omega
        refine ⟨q3, ?_, by omega, by omega⟩
        rw [q2, ← List.drop_drop, List.take_append_drop]
      | err e =>
        rw [hg] at hz
        simp only [ans] at hz
        rcases scan_err4 _ _ _ _ _ hg with h | h <;> omega
  · cases h
theorem numsT_some {l : List Nat} (hb : ∀ x ∈ l, x < 256) : ∀ (j a : Nat) (vs : List Nat) (r : Nat), numsT l j a = some (vs, r) → vs.length = j ∧ (∀ v ∈ vs, v < 18446744073709551616) ∧ l.drop a = vs.flatMap enc ++ l.drop r
  | 0, a, vs, r, h => by
    injection h with h
    injection h with h1 h2
    subst h1 h2
    exact ⟨rfl, by simp, by simp⟩
  | j + 1, a, vs, r, h => by
    obtain ⟨⟨us, b⟩, h1, h2⟩ := Option.bind_eq_some_iff.1 (show (numsT l j a).bind _ = some (vs, r) from h)
    obtain ⟨⟨v, c⟩, h3, h4⟩ := Option.map_eq_some_iff.1 h2
    injection h4 with h4 h5
    subst h4 h5
    obtain ⟨e1, e2, e3⟩ := numsT_some hb j a us b h1
    obtain ⟨f1, f2, -, -⟩ := numT_some hb h3
    refine ⟨by simp [e1], fun x hx => ?_, ?_⟩
    · rcases List.mem_append.1 hx with hx | hx
      · exact e2 x hx
      · obtain rfl : x = v := by simpa using hx
        exact f1
    · rw [e3, f2]; simp
theorem manyT_some {l : List Nat} {f : Nat → Option (T × Nat)} (hf : ∀ a t r, f a = some (t, r) → t.okN ∧ l.drop a = t.stand ++ l.drop r) : ∀ (n a : Nat) (ts : List T) (r : Nat), manyT f n a = some (ts, r) → ts.length = n ∧ T.okL ts ∧ l.drop a = T.standL ts ++ l.drop r
  | 0, a, ts, r, h => by
    injection h with h
    injection h with h1 h2
    subst h1 h2
    exact ⟨rfl, by simp [T.okL], by simp [T.standL]⟩
  | n + 1, a, ts, r, h => by
    obtain ⟨⟨t, b⟩, h1, h2⟩ := Option.bind_eq_some_iff.1 (show (f a).bind _ = some (ts, r) from h)
    obtain ⟨⟨us, c⟩, h3, h4⟩ := Option.map_eq_some_iff.1 h2
    injection h4 with h4 h5
    subst h4 h5
    obtain ⟨e1, e2⟩ := hf a t b h1
    obtain ⟨f1, f2, f3⟩ := manyT_some hf n b us c h3
    exact ⟨by simp [f1], by rw [T.okL]; exact ⟨e1, f2⟩, by rw [e2, f3, T.standL, List.append_assoc]⟩
theorem tk_some {l : List Nat} (hb : ∀ x ∈ l, x < 256) : ∀ (d a : Nat) (t : T) (r : Nat), tkS l d a = some (t, r) → t.okN ∧ l.drop a = t.stand ++ l.drop r
  | 0, a, t, r, h => by cases h
  | d + 1, a, t, r, h => by
    obtain ⟨kd, b, hk⟩ : ∃ kd b, kindT l a = (kd, b) := ⟨_, _, rfl⟩
    by_cases h0 : kd = 0 ∨ 7 < kd
    · exfalso
      have : tkS l (d + 1) a = none := by
        show (if (kindT l a).1 = 0 ∨ 7 < (kindT l a).1 then none else _) = _
        rw [hk, if_pos h0]
      rw [this] at h
      cases h
    rw [tkS_succ hk (by omega) (by omega)] at h
    obtain ⟨⟨vs, r1⟩, h1, h⟩ := Option.bind_eq_some_iff.1 h
    obtain ⟨⟨n, r2⟩, h2, h⟩ := Option.bind_eq_some_iff.1 h
    obtain ⟨⟨ts, r3⟩, h3, h4⟩ := Option.map_eq_some_iff.1 h
    injection h4 with h4 h5
    subst h4 h5
    obtain ⟨e1, e2, e3⟩ := numsT_some hb _ _ _ _ h1
    obtain ⟨f1, f2, f3⟩ := manyT_some (fun a t r => tk_some hb d a t r) _ _ _ _ h3
    simp only at e1 e2 e3 f1 f2 f3 h2
    have hkb : l.drop a = kd :: l.drop b := by
      unfold kindT at hk
      split at hk
      · rename_i hl
        injection hk with hk1 hk2
        subst hk2
        rw [List.drop_eq_getElem_cons hl]
        congr 1
        rw [← hk1, List.getD_eq_getElem?_getD, List.getElem?_eq_getElem hl]
        rfl
      · injection hk with hk1 hk2
        omega
    have hc : l.drop r1 = (if (6 : Int) ≤ (kd : Int) then enc n else []) ++ l.drop r2 ∧ n < 18446744073709551616 := by
      unfold cntT at h2
      by_cases h6 : 6 ≤ kd
      · rw [if_pos h6] at h2
        obtain ⟨g1, g2, -, -⟩ := numT_some hb h2
        rw [if_pos (by omega)]
        exact ⟨g2, g1⟩
      · rw [if_neg h6] at h2
        injection h2 with h2
        injection h2 with h2 h7
        rw [if_neg (by omega), ← h7]
        refine ⟨by simp, ?_⟩
        rw [← h2]; split <;> omega
    have hgd : ∀ i, vs.getD i 0 < 18446744073709551616 := fun i => by
      rw [List.getD_eq_getElem?_getD]
      cases hg : vs[i]? with
      | none => simp
      | some x => exact e2 x (List.mem_of_getElem? hg)
    refine ⟨by rw [T.okN]; exact ⟨hgd 0, hgd 1, by rw [f1]; exact hc.2, f2⟩, ?_⟩
    rw [hkb, e3, hc.1, f3, T.stand, Int.toNat_natCast, f1]
    have hn : numsL (kd : Int) (vs.getD 0 0) (vs.getD 1 0) = vs := by
      unfold numsL
      rw [← e1]
      match vs, e1 with
      | [], _ => rfl
      | [x], _ => rfl
      | [x, y], _ => rfl
      | x :: y :: z :: zs, e1 =>
        exfalso
        have : numN (kd : Int) ≤ 2 := by unfold numN; split; omega; split <;> omega
        simp at e1
        omega
    rw [hn]
    simp
theorem parse_some {l : List Nat} (hb : ∀ x ∈ l, x < 256) {t : T} (h : parseT l = some t) : t.rightB = true ∧ t.okN ∧ l = t.stand := by
  unfold parseT at h
  obtain ⟨⟨t', r⟩, h1, h2⟩ := Option.bind_eq_some_iff.1 h
  simp only at h2
  split at h2
  · rename_i hr
    injection h2 with h2
    subst h2
    unfold takeT at h1
    obtain ⟨⟨t2, r2⟩, h3, h4⟩ := Option.bind_eq_some_iff.1 h1
    simp only at h4
    split at h4
    · rename_i hright
      injection h4 with h4
      injection h4 with h4 h5
      subst h4 h5
      unfold tkI at h3
      rw [if_neg (by omega)] at h3
      obtain ⟨e1, e2⟩ := tk_some hb _ _ _ _ h3
      refine ⟨hright, e1, ?_⟩
      rw [hr, List.drop_length, List.append_nil] at e2
      simpa using e2
    · cases h4
  · cases h2
end Go.Proofs.YtdmoknnnlfkfoaaGreatDoor

namespace Go.Proofs.YtdmoknnnlfkfoaaGreatDoor
open Go Go.RowKit
set_option linter.unusedVariables false
mutual
def T.tell : T → List UInt8
  | .node k a b ps => wordL k.toNat ++ Lib.join ((numsL k a b).map Lib.decDigits) [61] ++ (if 6 ≤ k then [40] ++ Lib.join (T.tellL ps) [44] ++ [41] else Lib.join (T.tellL ps) [])
def T.tellL : List T → List (List UInt8)
  | [] => []
  | p :: ps => p.tell :: T.tellL ps
end
end Go.Proofs.YtdmoknnnlfkfoaaGreatDoor

namespace Go.Proofs.YtdmoknnnlfkfoaaGreatDoor
open Go Go.RowKit
set_option linter.unusedVariables false
end Go.Proofs.YtdmoknnnlfkfoaaGreatDoor

namespace Go.Proofs.YtdmoknnnlfkfoaaGreatDoor
open Go Go.RowKit
set_option linter.unusedVariables false
def T.text (t : T) : List UInt8 := if t.rightB then t.tell else []
end Go.Proofs.YtdmoknnnlfkfoaaGreatDoor

namespace Go.Proofs.YtdmoknnnlfkfoaaGreatDoor
open Go Go.RowKit
set_option linter.unusedVariables false
def nameL (k : Int) : List UInt8 :=
  if k = 1 then [98, 101, 103, 105, 110] else if k = 2 then [114, 101, 97, 100] else if k = 3 then [119, 114, 105, 116, 101] else if k = 4 then [100, 101, 108, 101, 116, 101] else
  if k = 5 then [112, 114, 101, 100] else if k = 6 then [99, 111, 109, 109, 105, 116] else if k = 7 then [97, 98, 111, 114, 116] else []
def verL (w n : Nat) : List UInt8 := Lib.decDigits w ++ [46] ++ Lib.decDigits n
def En.tell (e : En) : List UInt8 := Lib.join [Lib.decDigits e.x, verL e.w e.n, Lib.decDigits (if e.m then 1 else 0)] [58]
def Rc.wordsP (r : Rc) (i : Nat) : List (List UInt8) :=
  if i = 0 then [Lib.decDigits r.t] else if i = 1 then [Lib.decDigits r.x] else if i = 2 then [verL r.w r.n] else if i = 3 then [Lib.decDigits r.v] else if i = 4 then [r.p.text] else r.es.map En.tell
def Rc.wordsN (r : Rc) (l : List Nat) : List (List UInt8) := l.flatMap r.wordsP
def Rc.tell (r : Rc) : List UInt8 := Lib.join (nameL r.kind :: r.wordsN (partsN r.kind 6)) [32]
def Rc.text (r : Rc) : List UInt8 := if r.rightB then r.tell else []
theorem join_flat (a : List UInt8) (l : List (List UInt8)) (sep : List UInt8) : Lib.join (a :: l) sep = a ++ l.flatMap (sep ++ ·) := by
  rw [Lib.join_cons]; simp [Lib.joinTail, List.flatMap]
theorem partsN_of (k : Int) : partsN k 6 = if k = 2 then [0, 1, 2] else if k = 3 then [0, 1, 3] else if k = 4 then [0, 1] else if k = 5 then [0, 4, 5] else [0] := by
  have e : partsN k 6 = [0, 1, 2, 3, 4, 5].filter fun j => ofB j k := rfl
  rw [e]
  by_cases h2 : k = 2
  · subst h2; rfl
  by_cases h3 : k = 3
  · subst h3; rfl
  by_cases h4 : k = 4
  · subst h4; rfl
  by_cases h5 : k = 5
  · subst h5; rfl
  simp [ofB, h2, h3, h4, h5]
section
variable {w : World} {lo hi : Nat}
end
end Go.Proofs.YtdmoknnnlfkfoaaGreatDoor

namespace Go.Proofs.YtdmoknnnlfkfoaaGreatDoor
open Go Go.RowKit
set_option linter.unusedVariables false
theorem sl_drop (s : List UInt8) (k : Nat) (hk : k ≤ s.length) (W : World) : (Instr.slice 9 (.string ⟨s.toArray⟩) (some (.int .i64 (k : Int))) none none).run Tryz.prog W = .ok (.string ⟨(s.drop k).toArray⟩) W := by
  rw [run_slice_string_l W 9 ⟨s.toArray⟩ Tryz.underlying9 .i64 (k : Int) (by omega) (by simp [ByteArray.size]; omega)]
  congr 2
  apply ByteArray.ext
  rw [Int.toNat_natCast]
  simp [ByteArray.data_extract, ByteArray.size]
  rw [List.take_of_length_le (by simp)]
def isDig (c : UInt8) : Bool := digsL.contains c
theorem isDig_iff (c : UInt8) : isDig c = true ↔ 48 ≤ c.toNat ∧ c.toNat ≤ 57 := by
  unfold isDig digsL
  simp only [List.contains_eq_mem, decide_eq_true_eq, List.mem_cons, List.not_mem_nil, or_false]
  constructor
  · rintro (rfl | rfl | rfl | rfl | rfl | rfl | rfl | rfl | rfl | rfl) <;> decide
  · rintro ⟨h1, h2⟩
    have : c = UInt8.ofNat c.toNat := by simp
    have h3 : c.toNat = 48 ∨ c.toNat = 49 ∨ c.toNat = 50 ∨ c.toNat = 51 ∨ c.toNat = 52 ∨ c.toNat = 53 ∨ c.toNat = 54 ∨ c.toNat = 55 ∨ c.toNat = 56 ∨ c.toNat = 57 := by omega
    rw [this]
    rcases h3 with h | h | h | h | h | h | h | h | h | h <;> rw [h] <;> decide
theorem digS_take (s : List UInt8) : digS s = s.takeWhile isDig ∧ restS s = s.dropWhile isDig := by
  have h : restS s = s.dropWhile isDig := rfl
  refine ⟨?_, h⟩
  unfold digS
  rw [h]
  have hlen : s.length = (s.takeWhile isDig).length + (s.dropWhile isDig).length := by rw [← List.length_append, List.takeWhile_append_dropWhile]
  have h2 := List.take_left' (l₁ := s.takeWhile isDig) (l₂ := s.dropWhile isDig) rfl
  rw [List.takeWhile_append_dropWhile] at h2
  rw [show s.length - (s.dropWhile isDig).length = (s.takeWhile isDig).length by omega]
  exact h2
theorem dig_stop {s : List UInt8} {i : Nat} (hi : i ≤ s.length) (h1 : ∀ c ∈ s.take i, isDig c = true) (h2 : ∀ c, s[i]? = some c → isDig c = false) : digS s = s.take i ∧ restS s = s.drop i := by
  obtain ⟨e1, e2⟩ := digS_take s
  rw [e1, e2]
  have hs : s = s.take i ++ s.drop i := (List.take_append_drop i s).symm
  have h3 : (s.drop i).takeWhile isDig = [] ∧ (s.drop i).dropWhile isDig = s.drop i := by
    cases hd : s.drop i with
    | nil => simp
    | cons c t =>
      have : s[i]? = some c := by
        have := congrArg (·[0]?) hd
        simpa [List.getElem?_drop] using this
      have hc := h2 c this
      simp [hc]
  have h4 := List.takeWhile_append_of_pos (p := isDig) (l₂ := s.drop i) h1
  have h5 := List.dropWhile_append_of_pos (p := isDig) (l₂ := s.drop i) h1
  rw [List.take_append_drop] at h4 h5
  rw [h4, h5, h3.1, h3.2, List.append_nil]
  exact ⟨rfl, rfl⟩
theorem dig_more {s : List UInt8} {i : Nat} {c : UInt8} (h1 : ∀ c ∈ s.take i, isDig c = true) (hc : s[i]? = some c) (hd : isDig c = true) : ∃ t, digS s = s.take i ++ c :: t := by
  obtain ⟨e1, _⟩ := digS_take s
  have hi := (List.getElem?_eq_some_iff.1 hc).1
  have h2 : s.take (i + 1) = s.take i ++ [c] := take_one hc
  have h4 := List.takeWhile_append_of_pos (p := isDig) (l₁ := s.take (i + 1)) (l₂ := s.drop (i + 1)) (by
    intro x hx
    rw [h2] at hx
    rcases List.mem_append.1 hx with hx | hx
    · exact h1 x hx
    · obtain rfl : x = c := by simpa using hx
      exact hd)
  rw [List.take_append_drop] at h4
  exact ⟨(s.drop (i + 1)).takeWhile isDig, by rw [e1, h4, h2]; simp⟩
theorem parse_append (M : Nat) : ∀ (xs ys : List UInt8) (acc : Nat), Lib.parseUintM M acc (xs ++ ys) = match Lib.parseUintM M acc xs with | .ok n => Lib.parseUintM M n ys | Lib.NumEnd.syntax => Lib.NumEnd.syntax | .range => .range
  | [], ys, acc => by simp [Lib.parseUintM]
  | c :: r, ys, acc => by
    rw [List.cons_append, Lib.parseUintM, Lib.parseUintM]
    split
    · split
      · rfl
      · split
        · rfl
        · exact parse_append M r ys _
    · rfl
theorem parse_one {n : Nat} {c : UInt8} (hd : isDig c = true) : Lib.parseUintM 18446744073709551615 n [c] = if 18446744073709551615 < n * 10 + (c.toNat - 48) then .range else .ok (n * 10 + (c.toNat - 48)) := by
  obtain ⟨h1, h2⟩ := (isDig_iff c).1 hd
  rw [Lib.parseUintM, if_pos ⟨h1, h2⟩]
  by_cases h : 1844674407370955162 ≤ n
  · rw [if_pos h, if_pos (by omega)]
  · rw [if_neg h]
    rfl
def DgI (s : List UInt8) (i n : Nat) : Prop := (∀ c ∈ s.take i, isDig c = true) ∧ Lib.parseUintM 18446744073709551615 0 (s.take i) = .ok n
theorem DgI.zero (s : List UInt8) : DgI s 0 0 := ⟨by simp, by simp [Lib.parseUintM]⟩
theorem DgI.step {s : List UInt8} {i n : Nat} {c : UInt8} (h : DgI s i n) (hc : s[i]? = some c) (hd : isDig c = true) (hn : n * 10 + (c.toNat - 48) ≤ 18446744073709551615) : DgI s (i + 1) (n * 10 + (c.toNat - 48)) := by
  rw [DgI, take_one hc]
  refine ⟨fun x hx => ?_, ?_⟩
  · rcases List.mem_append.1 hx with hx | hx
    · exact h.1 x hx
    · obtain rfl : x = c := by simpa using hx
      exact hd
  · rw [parse_append, h.2]
    simp only
    rw [parse_one hd, if_neg (by omega)]
theorem DgI.over {s : List UInt8} {i n : Nat} {c : UInt8} (h : DgI s i n) (hc : s[i]? = some c) (hd : isDig c = true) (hn : 18446744073709551615 < n * 10 + (c.toNat - 48)) : numS s = none := by
  obtain ⟨t, ht⟩ := dig_more h.1 hc hd
  apply numS_bad
  intro u hu
  rw [ht] at hu
  unfold Lib.parseUintB at hu
  rw [if_neg (by simp), show s.take i ++ c :: t = s.take i ++ ([c] ++ t) by simp, show (2 ^ 64 - 1) = 18446744073709551615 by decide, parse_append, h.2] at hu
  simp only at hu
  rw [parse_append, parse_one hd, if_pos hn] at hu
  cases hu
theorem DgI.done {s : List UInt8} {i n : Nat} (h : DgI s i n) (hi : i ≤ s.length) (h2 : ∀ c, s[i]? = some c → isDig c = false) : numS s = if 0 < i ∧ Lib.decDigits n = s.take i then some (n, s.drop i) else none := by
  obtain ⟨e1, e2⟩ := dig_stop hi h.1 h2
  by_cases h0 : 0 < i
  · have hp : Lib.parseUintB 64 (digS s) = .ok n := by
      unfold Lib.parseUintB
      rw [e1, if_neg (by intro e; have h3 : (s.take i).length = 0 := (by rw [e]; rfl); rw [List.length_take] at h3; omega), show (2 ^ 64 - 1) = 18446744073709551615 by decide]
      exact h.2
    rw [numS_ok hp, e1, e2]
    by_cases hq : Lib.decDigits n = s.take i
    · rw [if_pos hq, if_pos ⟨h0, hq⟩]
    · rw [if_neg hq, if_neg (fun h => hq h.2)]
  · obtain rfl : i = 0 := by omega
    rw [if_neg (by omega)]
    apply numS_bad
    intro u hu
    rw [e1] at hu
    unfold Lib.parseUintB at hu
    simp at hu
theorem DgI.lt {s : List UInt8} {i n : Nat} (h : DgI s i n) : n ≤ 18446744073709551615 := Lib.parseUintM_le 18446744073709551615 _ 0 n (by omega) h.2
end Go.Proofs.YtdmoknnnlfkfoaaGreatDoor

namespace Go.Proofs.YtdmoknnnlfkfoaaGreatDoor
open Go Go.RowKit
set_option linter.unusedVariables false
theorem tell_small {k : Int} {a b : Nat} {ps : List T} (h : fitsB k a b ps.length = true) (hk : 1 ≤ k ∧ k ≤ 4) : (T.node k a b ps).tell = wordL k.toNat ++ Lib.join ((numsL k a b).map Lib.decDigits) [61] := by
  have hp : ps = [] := by
    refine List.eq_nil_of_length_eq_zero ?_
    unfold fitsB at h
    split at h
    · exact (of_decide_eq_true h).2.2
    split at h
    · exact (of_decide_eq_true h).2
    split at h
    · exact (of_decide_eq_true h).2
    omega
  subst hp
  rw [T.tell, if_neg (by omega)]
  simp [T.tellL, Lib.join_nil]
theorem tell_1 {a b : Nat} {ps : List T} (h : fitsB 1 a b ps.length = true) : (T.node 1 a b ps).tell = [97, 108, 108] := by
  rw [tell_small h (by omega)]; rfl
theorem tell_2 {a b : Nat} {ps : List T} (h : fitsB 2 a b ps.length = true) : (T.node 2 a b ps).tell = [120, 60, 61] ++ Lib.decDigits a := by
  rw [tell_small h (by omega)]
  show [120, 60, 61] ++ Lib.join [Lib.decDigits a] [61] = _
  rw [Lib.join_one]
theorem tell_3 {a b : Nat} {ps : List T} (h : fitsB 3 a b ps.length = true) : (T.node 3 a b ps).tell = [118, 60, 61] ++ Lib.decDigits a := by
  rw [tell_small h (by omega)]
  show [118, 60, 61] ++ Lib.join [Lib.decDigits a] [61] = _
  rw [Lib.join_one]
theorem tell_4 {a b : Nat} {ps : List T} (h : fitsB 4 a b ps.length = true) : (T.node 4 a b ps).tell = [118, 37] ++ Lib.decDigits a ++ [61] ++ Lib.decDigits b := by
  rw [tell_small h (by omega)]
  show [118, 37] ++ Lib.join [Lib.decDigits a, Lib.decDigits b] [61] = _
  rw [Lib.join_cons]
  simp [Lib.joinTail]
theorem tell_5 {a b : Nat} {p : T} : (T.node 5 a b [p]).tell = [33] ++ p.tell := by
  rw [T.tell, if_neg (by omega), T.tellL, T.tellL, Lib.join_one]
  show [33] ++ Lib.join [] [61] ++ p.tell = _
  simp [Lib.join_nil]
theorem tell_67 {k : Int} {a b : Nat} {ps : List T} (hk : k = 6 ∨ k = 7) : (T.node k a b ps).tell = [if k = 7 then 124 else 38, 40] ++ Lib.join (T.tellL ps) [44] ++ [41] := by
  rw [T.tell, if_pos (by omega)]
  rcases hk with rfl | rfl
  · show [38] ++ Lib.join [] [61] ++ _ = [38, 40] ++ _ ++ _
    simp [Lib.join_nil]
  · show [124] ++ Lib.join [] [61] ++ _ = [124, 40] ++ _ ++ _
    simp [Lib.join_nil]
end Go.Proofs.YtdmoknnnlfkfoaaGreatDoor

namespace Go.Proofs.YtdmoknnnlfkfoaaGreatDoor
open Go Go.RowKit
set_option linter.unusedVariables false
theorem dec1 {n : Nat} (h : n < 10) : Lib.decDigits n = [UInt8.ofNat (48 + n)] := by rw [Lib.decDigits, dif_pos h]
end Go.Proofs.YtdmoknnnlfkfoaaGreatDoor

namespace Go.Proofs.YtdmoknnnlfkfoaaGreatDoor
open Go Go.RowKit
set_option linter.unusedVariables false
end Go.Proofs.YtdmoknnnlfkfoaaGreatDoor

namespace Go.Proofs.YtdmoknnnlfkfoaaGreatDoor
open Go Go.RowKit
set_option linter.unusedVariables false
def listB (f : List UInt8 → Option (T × List UInt8)) (q : List UInt8) : Option (List T × List UInt8) :=
  if Lib.hasPrefix q [41] then some ([], Lib.trimPrefix q [41]) else (f q).bind fun (t, r') => (moreS f (r'.length + 1) r').map fun (ts, r2) => (t :: ts, r2)
def contS (f : List UInt8 → Option (T × List UInt8)) (q : List UInt8) : Option (List T × List UInt8) := (f q).bind fun (t, r') => (moreS f (r'.length + 1) r').map fun (ts, r2) => (t :: ts, r2)
theorem listS_B (f : List UInt8 → Option (T × List UInt8)) (s : List UInt8) : listS f s = if Lib.hasPrefix s [40] then listB f (Lib.trimPrefix s [40]) else none := rfl
theorem pre_one (c x : UInt8) (l : List UInt8) : Lib.hasPrefix (c :: l) [x] = (x == c) := by simp [Lib.hasPrefix, List.isPrefixOf]
theorem trim_one (c : UInt8) (l : List UInt8) : Lib.trimPrefix (c :: l) [c] = l := by unfold Lib.trimPrefix; rw [pre_one]; simp
theorem trim_yes {s x : List UInt8} (h : Lib.hasPrefix s x = true) : Lib.trimPrefix s x = s.drop x.length := by unfold Lib.trimPrefix; rw [if_pos h]
section
variable {f : List UInt8 → Option (T × List UInt8)} {q rest : List UInt8} {t : T}
theorem cont_shut {l : List UInt8} (h : f q = some (t, 41 :: l)) : contS f q = some ([t], l) := by
  unfold contS; rw [h]
  simp only [Option.bind_some]
  rw [show moreS f ((41 :: l).length + 1) (41 :: l) = some ([], l) by unfold moreS; rw [pre_one, pre_one, trim_one]; rfl]
  rfl
theorem cont_more {l : List UInt8} (hf : ∀ s t r, f s = some (t, r) → r.length < s.length) (h : f q = some (t, 44 :: l)) : contS f q = (contS f l).map fun (ts, r) => (t :: ts, r) := by
  conv => lhs; unfold contS
  rw [h]
  simp only [Option.bind_some]
  have : moreS f ((44 :: l).length + 1) (44 :: l) = contS f l := by
    conv => lhs; unfold moreS
    rw [pre_one, trim_one]
    simp only [beq_self_eq_true, if_true]
    unfold contS
    cases hl : f l with
    | none => rfl
    | some x =>
      obtain ⟨t2, r2⟩ := x
      have := hf _ _ _ hl
      simp only [Option.bind_some]
      rw [moreS_fuel hf (44 :: l).length (r2.length + 1) r2 (by simp; omega) (Nat.le_refl _)]
  rw [this]
end
section
variable {d : Nat} {s : List UInt8}
theorem kind_hit {j : Nat} (h1 : 1 ≤ j) (h7 : j ≤ 7) (hn : ∀ i, 1 ≤ i → i < j → Lib.hasPrefix s (wordL i) = false) (hy : Lib.hasPrefix s (wordL j) = true) : kindS s = (j, s.drop (wordL j).length) := by
  rw [kindS_at h1 h7 hn hy, trim_yes hy]
theorem rd_all (h : Lib.hasPrefix s [97, 108, 108] = true) : rdS (d + 1) s = some (.node 1 0 0 [], s.drop 3) := by
  rw [rdS_succ (kind_hit (j := 1) (by omega) (by omega) (fun i h1 h2 => by omega) h) (by omega)]
  rfl
theorem rd_x (h1 : Lib.hasPrefix s [97, 108, 108] = false) (h : Lib.hasPrefix s [120, 60, 61] = true) : rdS (d + 1) s = (numS (s.drop 3)).map fun x => (.node 2 x.1 0 [], x.2) := by
  rw [rdS_succ (kind_hit (j := 2) (by omega) (by omega) (fun i q1 q2 => by obtain rfl : i = 1 := by omega
                                                                           exact h1) h) (by omega)]
  show (numsS 1 (s.drop 3)).bind _ = _
  show (((numS (s.drop 3)).map _).bind _) = _
  cases numS (s.drop 3) with
  | none => rfl
  | some x => rfl
theorem rd_v (h1 : Lib.hasPrefix s [97, 108, 108] = false) (h2 : Lib.hasPrefix s [120, 60, 61] = false) (h : Lib.hasPrefix s [118, 60, 61] = true) : rdS (d + 1) s = (numS (s.drop 3)).map fun x => (.node 3 x.1 0 [], x.2) := by
  rw [rdS_succ (kind_hit (j := 3) (by omega) (by omega) (fun i q1 q2 => by
    have : i = 1 ∨ i = 2 := by omega
    rcases this with rfl | rfl
    · exact h1
    · exact h2) h) (by omega)]
  show (((numS (s.drop 3)).map _).bind _) = _
  cases numS (s.drop 3) with
  | none => rfl
  | some x => rfl
theorem rd_m (h1 : Lib.hasPrefix s [97, 108, 108] = false) (h2 : Lib.hasPrefix s [120, 60, 61] = false) (h3 : Lib.hasPrefix s [118, 60, 61] = false) (h : Lib.hasPrefix s [118, 37] = true) :
    rdS (d + 1) s = (numS (s.drop 2)).bind fun x => if Lib.hasPrefix x.2 [61] then (numS (x.2.drop 1)).map fun y => (.node 4 x.1 y.1 [], y.2) else none := by
  rw [rdS_succ (kind_hit (j := 4) (by omega) (by omega) (fun i q1 q2 => by
    have : i = 1 ∨ i = 2 ∨ i = 3 := by omega
    rcases this with rfl | rfl | rfl
    · exact h1
    · exact h2
    · exact h3) h) (by omega)]
  show (((((numS (s.drop 2)).map _).bind _).bind _)) = _
  cases numS (s.drop 2) with
  | none => rfl
  | some x =>
    obtain ⟨v, r⟩ := x
    simp only [Option.map_some, Option.bind_some]
    cases h61 : Lib.hasPrefix r [61] with
    | false => rfl
    | true =>
      simp only [if_true, trim_yes h61]
      show (((numS (r.drop 1)).map _).bind _) = _
      cases numS (r.drop 1) with
      | none => rfl
      | some y => rfl
theorem rd_n (hn : ∀ i, 1 ≤ i → i < 5 → Lib.hasPrefix s (wordL i) = false) (h : Lib.hasPrefix s [33] = true) : rdS (d + 1) s = (rdS d (s.drop 1)).map fun x => (.node 5 0 0 [x.1], x.2) := by
  rw [rdS_succ (kind_hit (j := 5) (by omega) (by omega) hn h) (by omega)]
  show (((rdS d (s.drop 1)).map _).map _) = _
  cases rdS d (s.drop 1) with
  | none => rfl
  | some x => rfl
theorem pre_two {a b : UInt8} : Lib.hasPrefix s [a, b] = (Lib.hasPrefix s [a] && Lib.hasPrefix (s.drop 1) [b]) := by
  cases s with
  | nil => rfl
  | cons c l =>
    cases l with
    | nil => simp [Lib.hasPrefix, List.isPrefixOf]
    | cons x l => simp [Lib.hasPrefix, List.isPrefixOf]
theorem rd_r (j : Nat) (c : UInt8) (hj : j = 6 ∧ c = 38 ∨ j = 7 ∧ c = 124) (hn : ∀ i, 1 ≤ i → i < j → Lib.hasPrefix s (wordL i) = false) (h : Lib.hasPrefix s [c] = true) :
    rdS (d + 1) s = if Lib.hasPrefix s [c, 40] then (listB (rdS d) (s.drop 2)).map fun x => (.node j 0 0 x.1, x.2) else none := by
  have hk : kindS s = (j, s.drop 1) := by
    rcases hj with ⟨rfl, rfl⟩ | ⟨rfl, rfl⟩
    · exact kind_hit (by omega) (by omega) hn h
    · exact kind_hit (by omega) (by omega) hn h
  rw [rdS_succ hk (by omega), pre_two, h, Bool.true_and]
  have h0 : numN ((j : Nat) : Int) = 0 := by rcases hj with ⟨rfl, _⟩ | ⟨rfl, _⟩ <;> rfl
  rw [h0]
  show (((partsS (rdS d) j (s.drop 1)).map _)) = _
  have hp : partsS (rdS d) j (s.drop 1) = listS (rdS d) (s.drop 1) := by unfold partsS; rw [if_neg (by omega), if_pos (by omega)]
  rw [hp, listS_B]
  cases h40 : Lib.hasPrefix (s.drop 1) [40] with
  | false => rfl
  | true =>
    rw [if_pos rfl, if_pos rfl, trim_yes h40, List.drop_drop]
    rfl
end
end Go.Proofs.YtdmoknnnlfkfoaaGreatDoor
