/-
  Layer 4: docs.Expr: the document's tree of a program's, in new memory.
  Layer 4: the program's reader: how node and list end; the steps between.
  Layer 4: slices.Clone of parts; copies.
-/
import Derived.Test.YtiiiklenhmhccaaGreatDoorZpTrw
import Derived.Test.YtiiiklenhmhccaaGreatDoorZpTp4
import Derived.Test.YtiiiklenhmhccaaGreatDoorZpTdn
import Derived.Great.BuildSlice
import Derived.Deep.DeepCutAuto
import Derived.Deep.CutBlock
import Derived.Deep.RegionHeld3
import Derived.Deep.RegionLaw
import Derived.Test.YtiiiklenhmhccaaGreatDoorZpVri

namespace Go.Proofs.YtiiiklenhmhccaaGreatDoor
open Go Go.RowKit
set_option linter.unusedVariables false
theorem Tryz.infoR : (Tryz.prog.info? 36).map (fun i => (i.zero, i.size, i.bytes)) = some (some (.agg #[.int .i64 0, .int .u64 0, .int .u64 0, .slice none 0 0]), 4, 48) := by kernel_rfl
theorem new_val (w : World) (E : TypeId) (u : V) : Rd (w.alloc (.cells #[.int .i64 u.kind, .int .u64 (u.a : Int), .int .u64 (u.b : Int), u.sl] E)) (w.heap.size + 1) 4 (some ⟨w.heap.size, 0, none⟩) 1 (vCells [u]) := by
  refine ⟨by rw [vCells_length]; rfl, fun _ => ⟨_, rfl, by simp, fun j x hx => ?_⟩⟩
  have hr := heap_alloc_new w (.cells #[.int .i64 u.kind, .int .u64 (u.a : Int), .int .u64 (u.b : Int), u.sl] E)
  have e : (⟨w.heap.size, 0, none⟩ : Addr).add j = ⟨w.heap.size, j, none⟩ := by unfold Addr.add; split <;> simp_all
  rw [e, cell_of_row _ _ j _ _ _ hr]
  have hv : vCells [u] = [.int .i64 u.kind, .int .u64 (u.a : Int), .int .u64 (u.b : Int), u.sl] := rfl
  rw [hv] at hx
  rw [← hx]
  simp
set_option maxRecDepth 100000 in
set_option maxHeartbeats 1600000 in
theorem dexpr_any : ∀ (v : V) (w : World) (lo hi : Nat), Lies w lo hi v → hi ≤ w.heap.size → v.abs.count ≤ 1000 → Calls Tryz.prog 38 #[v.val] w (MadeT 36 v.abs w) := by
  refine V.ind fun k a b A c ps ih w lo hi hL hhi hct => ?_
  obtain ⟨hlen, hcap', hk, ha, hb⟩ := hL.caps
  have hlc : ps.length ≤ 1000 := by
    rw [V.count_node] at hct
    have := length_le_countL (V.absL ps)
    rw [absL_length] at this
    omega
  have IH : Hid (∀ (i : Nat) (p : V), ps[i]? = some p → ∀ W, Below w.heap.size w W → Calls Tryz.prog 38 #[p.val] W (MadeT 36 p.abs W)) := fun i p hp W hW => ih p (List.mem_of_getElem? hp) W lo hi ((hL.part (List.mem_of_getElem? hp)).under (hW.mono hhi)) (Nat.le_trans hhi hW.size) (hL.small hct hp).1
  have HL : Hid (∀ W, Below w.heap.size w W → Lies W lo hi (.node k a b A c ps)) := fun W hW => hL.under (hW.mono hhi)
  have HK := Lib_hid (And.intro hk (And.intro ha hb))
  clear ih hL hct
  show Calls Tryz.prog 38 #[.agg #[.int .i64 k, .int .u64 (a : Int), .int .u64 (b : Int), .slice A ps.length c]] w _
  obtain ⟨i0, hi0, hz0, hz1, hz2⟩ := info_parts Tryz.infoR
  have r1 := heap_alloc_new w (.cells #[.int .i64 k, .int .u64 (a : Int), .int .u64 (b : Int), .slice A ps.length c] 27)
  have b1 := below_new w (.cells #[.int .i64 k, .int .u64 (a : Int), .int .u64 (b : Int), .slice A ps.length c] 27)
  obtain ⟨w1, hw1⟩ : ∃ w1, w1 = w.alloc (.cells #[.int .i64 k, .int .u64 (a : Int), .int .u64 (b : Int), .slice A ps.length c] 27) := ⟨_, rfl⟩
  have s1 : w1.heap.size = w.heap.size + 1 := by rw [hw1]; simp
  rw [← hw1] at r1 b1
  have r2 := heap_alloc_new w1 (.cells #[.int .i64 0, .int .u64 0, .int .u64 0, .slice none 0 0] 36)
  have b2 := below_new w1 (.cells #[.int .i64 0, .int .u64 0, .int .u64 0, .slice none 0 0] 36)
  obtain ⟨w2, hw2⟩ : ∃ w2, w2 = w1.alloc (.cells #[.int .i64 0, .int .u64 0, .int .u64 0, .slice none 0 0] 36) := ⟨_, rfl⟩
  have s2 : w2.heap.size = w.heap.size + 2 := by rw [hw2]; simp [s1]
  rw [← hw2, s1] at r2 b2
  have r3 := heap_alloc_new w2 (.cells #[.int .i64 k, .int .u64 (a : Int), .int .u64 (b : Int), .slice none 0 0] 36)
  have b3 := below_new w2 (.cells #[.int .i64 k, .int .u64 (a : Int), .int .u64 (b : Int), .slice none 0 0] 36)
  obtain ⟨w3, hw3⟩ : ∃ w3, w3 = w2.alloc (.cells #[.int .i64 k, .int .u64 (a : Int), .int .u64 (b : Int), .slice none 0 0] 36) := ⟨_, rfl⟩
  have s3 : w3.heap.size = w.heap.size + 3 := by rw [hw3]; simp [s2]
  rw [← hw3, s2] at r3 b3
  have r12 := (b2.block _ (by omega)).trans r1
  have r13 := (b3.block _ (by omega)).trans r12
  have r23 := (b3.block _ (by omega)).trans r2
  have hbw := (b1.trans (b2.mono (by omega))).trans (b3.mono (by omega))
  have HQ := Lib_hid (And.intro r13 (And.intro r23 (And.intro r3 (And.intro hbw s3))))
  have e0 := cell_of_row w2 _ 0 _ _ _ r12
  have e1 := cell_of_row w2 _ 1 _ _ _ r12
  have e2 := cell_of_row w2 _ 2 _ _ _ r12
  simp at e0 e1 e2
  subst hw3 hw2 hw1
  clear r1 r2 r3 r12 r13 r23 b1 b2 b3 hbw s3
  go_enter Tryz.func38, Tryz.ntmps38
  go_upto_region 2 with (fail)
  obtain ⟨hq1, hq2, hq3, hbw, hs4⟩ := HQ.out
  clear HQ e0 e1 e2 s1 s2
  generalize ((w.alloc _).alloc _).alloc (.cells #[.int .i64 k, .int .u64 (a : Int), .int .u64 (b : Int), .slice none 0 0] 36) = w4 at *
  have H0 : Hid (TRow 36 (w.heap.size + 3) (.slice none 0 0) [] w4) := TRow.nil _ _ _
  have HQ2 := Lib_hid hq2
  clear hq2
  go_wp2
  go_loopw [4] (fun z W => ∃ (i : Nat) (us : List V) (A' : Option Addr) (c' : Nat), z = .int .i64 i ∧ i ≤ ps.length ∧ Hid (us.length = i ∧ V.absL us = V.absL (ps.take i)) ∧ Hid (TRow 36 (w.heap.size + 3) (.slice A' i c') us W) ∧
      W.heap[w.heap.size]? = some (.cells #[.int .i64 k, .int .u64 (a : Int), .int .u64 (b : Int), .slice A ps.length c] 27 (0, 0)) ∧
      Hid (W.heap[w.heap.size + 1]? = some (.cells #[.int .i64 0, .int .u64 0, .int .u64 0, .slice none 0 0] 36 (0, 0))) ∧
      W.heap[w.heap.size + 2]? = some (.cells #[.int .i64 k, .int .u64 (a : Int), .int .u64 (b : Int), .slice A' i c'] 36 (0, 0)) ∧ w.heap.size + 3 ≤ W.heap.size ∧ Below w.heap.size w W) (fun z _ => ps.length - (intOf z).toNat)
  case atStart => exact ⟨0, [], none, 0, rfl, Nat.zero_le _, Lib_hid ⟨rfl, by simp [V.absL]⟩, H0, hq1, HQ2, hq3, by omega, hbw⟩
  case round =>
    clear hq1 HQ2 hq3 H0 hs4 hbw
    obtain ⟨i, us, A', c', rfl, hi1, hus, hrow, hq1, hq2, hq3, hsz, hbw⟩ := hrel
    rename World => W
    have c3 := cell_of_row W _ 3 _ _ _ hq1
    simp at c3
    by_cases hlt : i < ps.length
    · obtain ⟨bb, off, p, rfl, hbb, hlb, hp, hLp, d0, d1, d2, d3⟩ := (HL.out W hbw).nth hlt
      have g3 := cell_of_row W _ 3 _ _ _ hq3
      simp at g3
      have CH : Hid (∀ W' : World, Below W.heap.size W W' → Calls Tryz.prog 38 #[.agg #[.int .i64 p.kind, .int .u64 (p.a : Int), .int .u64 (p.b : Int), .slice p.addr p.parts.length p.cap]] W' fun e w' => ∃ u : V, e = .returned (.agg #[.int .i64 u.kind, .int .u64 (u.a : Int), .int .u64 (u.b : Int), .slice u.addr u.parts.length u.cap]) ∧ u.abs = p.abs ∧ Lies w' W'.heap.size w'.heap.size u ∧ Shp 36 w' W'.heap.size u ∧ Below W'.heap.size W' w') := fun W' hW' => (IH.out i p hp W' (hbw.trans (hW'.mono hbw.size))).mono fun e w' ⟨u, he, hr⟩ => ⟨u, he, hr⟩
      have S8 : Hid (∀ W' : World, (∀ g, g < w.heap.size + 1 → W'.heap[g]? = W.heap[g]?) → W'.cell? ⟨w.heap.size, 3, none⟩ = some (.slice (some ⟨bb, off, none⟩) ps.length c) ∧
          W'.cell? ⟨bb, off + i * 4, none⟩ = some (.int .i64 p.kind) ∧ W'.cell? ⟨bb, off + i * 4 + 1, none⟩ = some (.int .u64 (p.a : Int)) ∧ W'.cell? ⟨bb, off + i * 4 + 2, none⟩ = some (.int .u64 (p.b : Int)) ∧ W'.cell? ⟨bb, off + i * 4 + 3, none⟩ = some (.slice p.addr p.parts.length p.cap)) := by
        intro W' hk
        have key : ∀ g j, g < w.heap.size + 1 → W'.cell? ⟨g, j, none⟩ = W.cell? ⟨g, j, none⟩ := fun g j hg => World.cell?_of_block (a := ⟨g, j, none⟩) (hk g hg)
        exact ⟨(key _ _ (by omega)).trans c3, (key _ _ (by omega)).trans d0, (key _ _ (by omega)).trans d1, (key _ _ (by omega)).trans d2, (key _ _ (by omega)).trans d3⟩
      have HP := Lib_hid hp
      have hoi := hrow.out.own
      rw [hus.out.1] at hoi
      have hcp := own_cap hoi
      have hm1 : i + 1 ≤ maxLen := by unfold maxLen; omega
      have hm2 : (i + 1) * 48 ≤ 140737488355328 := by omega
      have HO : Hid (∀ w2 : World, Below W.heap.size W w2 → w2.ownsRow (w.heap.size + 3) 36 4 (.slice A' i c') i (vCells us)) := fun w2 h2 => by
        have := own_below hrow.out.own h2 (own_lt hrow.out.own)
        rwa [hus.out.1] at this
      have HE : Hid (∀ (w2 w3 w5 : World) (u : V) (v' : Value), Below W.heap.size W w2 → u.abs = p.abs → Lies w2 W.heap.size w2.heap.size u → Shp 36 w2 W.heap.size u → Below w2.heap.size w2 w3 → Stp w3 w5 (.slice A' i c') v' →
          w5.ownsRow (w.heap.size + 3) 36 4 v' (i + 1) (vCells us ++ vCells [u]) →
          ((us ++ [u]).length = i + 1 ∧ V.absL (us ++ [u]) = V.absL (ps.take (i + 1))) ∧ TRow 36 (w.heap.size + 3) v' (us ++ [u]) w5 ∧ (∀ g, g < w.heap.size + 3 → w5.heap[g]? = W.heap[g]?) ∧ w.heap.size + 3 ≤ w5.heap.size ∧ Below w.heap.size w w5) := by
        intro w2 w3 w5 u v' hb2 hua huL huS hb3 hst ho
        have hge := own_ge hrow.out.own
        have hs2 := hb2.size
        have hs3 := hb3.size
        refine ⟨⟨by simp [hus.out.1], ?_⟩, ?_, fun g hg => ?_, by have := hst.grow.size; omega, ?_⟩
        · rw [absL_take HP.out, absL_map, List.map_append, ← absL_map, hus.out.2, List.map_cons, List.map_nil, hua]
        · have := hrow.out.push (w2 := w2) (w3 := w3) (w4 := w5) (v' := v') (u := u) hsz hb2 huL huS hb3 hst (by rw [hus.out.1]; exact ho)
          exact this
        · exact (hst.grow.block g (by omega) (fun e => by have := hge g e.symm; omega)).trans ((hb3.block g (by omega)).trans (hb2.block g (by omega)))
        · exact ((hbw.trans (hb2.mono hbw.size)).trans (hb3.mono (by have := hbw.size; omega))).trans (hst.below (by have := hbw.size; omega) fun k hk => by have := hge k hk; omega)
      have HQ := Lib_hid (And.intro hq1 (And.intro hq2.out hq3))
      have HV : Hid (∀ (w2 : World) (u : V), Rd (w2.alloc (.cells #[.int .i64 u.kind, .int .u64 (u.a : Int), .int .u64 (u.b : Int), .slice u.addr u.parts.length u.cap] 36)) (w2.heap.size + 1) 4 (some ⟨w2.heap.size, 0, none⟩) 1 (vCells [u])) := fun w2 u => new_val w2 _ u
      clear hus hrow hoi hq1 hq2 hq3 d0 d1 d2 d3 hp hLp
      go_wp2
      clear c3
      obtain ⟨s0, s1', s2', s3', s4'⟩ := S8.out W.drew (fun _ _ => rfl)
      have g3' : W.drew.cell? ⟨w.heap.size + 2, 3, none⟩ = some (.slice A' i c') := g3
      have gl : w.heap.size + 2 < W.drew.heap.size := by show _ < W.heap.size; omega
      clear g3
      go_region_law
        ((first
          | ((refine step_app rfl (.tmp 20) (.tmp 27) 34 rfl (w.heap.size + 3) 36 i0 (.agg #[.int .i64 0, .int .u64 0, .int .u64 0, .slice none 0 0]) 4 48 Tryz.underlying34 hi0 hz0 hz1 hz2 rfl (by decide) (.slice A' i c') i (vCells us) rfl (own_below (HO.out w2 hb2) (below_new w2 _) (own_lt (HO.out w2 hb2))) (w2.heap.size + 1) (some ⟨w2.heap.size, 0, none⟩) 1 1 (vCells [u]) rfl (HV.out w2 u) (v_one _) hm1 hm2 (by have := hb2.size; simp; omega) ?_); intro v5 w5 ho5 hs5; have hx := HE.out w2 _ w5 u v5 hb2 hua huL huS (below_new w2 _) hs5 ho5; obtain ⟨A5, c5, rfl, _⟩ := own_form ho5; have hk5 := hx.2.2.1; have hq5 := (hk5 (w.heap.size + 2) (by omega)).trans HQ.out.2.2; have g5 := cell_of_row w5 _ 3 _ _ _ hq5; have z5 := frozen_of_row w5 _ 3 _ _ hq5; simp at g5)
          | (go_simp; refine (CH.out _ (by exact below_like4 (Below.refl _ _) rfl rfl rfl rfl)).mono ?_; rintro e w2 ⟨u, rfl, hua, huL, huS, hb2'⟩; dsimp only; have hb2 : Below W.heap.size W w2 := ⟨hb2'.os, hb2'.tape, hb2'.output, hb2'.size, hb2'.block⟩; have hk2 : ∀ g, g < w.heap.size + 3 → w2.heap[g]? = W.heap[g]? := (fun g hg => hb2.block g (by omega)); have g2 : w2.cell? ⟨w.heap.size + 2, 3, none⟩ = some (.slice A' i c') := (World.cell?_of_block (a := ⟨w.heap.size + 2, 3, none⟩) (hk2 (w.heap.size + 2) (by omega))).trans g3'; have gl2 : w.heap.size + 2 < w2.heap.size := (by have := hb2.size; omega); obtain ⟨t0, t1, t2, t3, t4⟩ := S8.out w2 (fun g hg => hk2 g (by omega)))))
      all_goals
        have hr6 := hx.2.1.keep (w' := w5.setCell ⟨w.heap.size + 2, 3, none⟩ (.slice A5 (i + 1) c5)) (by simp [World.setCell]) (fun g hg _ => Below.heap_setCell w5 ⟨w.heap.size + 2, 3, none⟩ _ g (by show g ≠ w.heap.size + 2; omega))
        have q61 := (Below.heap_setCell w5 ⟨w.heap.size + 2, 3, none⟩ (.slice A5 (i + 1) c5) w.heap.size (by show w.heap.size ≠ w.heap.size + 2; omega)).trans ((hk5 _ (by omega)).trans HQ.out.1)
        have q62 := (Below.heap_setCell w5 ⟨w.heap.size + 2, 3, none⟩ (.slice A5 (i + 1) c5) (w.heap.size + 1) (by show w.heap.size + 1 ≠ w.heap.size + 2; omega)).trans ((hk5 _ (by omega)).trans HQ.out.2.1)
        have q63 := Joins.block_setCell (i := 3) hq5 (.slice A5 (i + 1) c5)
        have b6 := hx.2.2.2.2.setCell (p := ⟨w.heap.size + 2, 3, none⟩) (by show w.heap.size ≤ w.heap.size + 2; omega) (.slice A5 (i + 1) c5)
        have s6 : w.heap.size + 3 ≤ (w5.setCell ⟨w.heap.size + 2, 3, none⟩ (.slice A5 (i + 1) c5)).heap.size := by have := hx.2.2.2.1; simpa [World.setCell] using this
        have HR6 := Lib_hid (And.intro hr6 (And.intro hx.1 (And.intro q61 (And.intro q62 (And.intro q63 (And.intro s6 b6))))))
        clear hr6 q61 q62 q63 b6 s6 hx hk5 hq5 g5 z5 ho5 hs5 hua huL huS hb2 hb2' hk2 g2 gl2 t0 t1 t2 t3 t4 s0 s1' s2' s3' s4' g3' gl CH HE HO HV S8
        generalize w5.setCell ⟨w.heap.size + 2, 3, none⟩ (.slice A5 (i + 1) c5) = w6 at *
        go_wp2
        go_roundw
        case rel => exact ⟨i + 1, us ++ [u], A5, c5, by go_num, by omega, HR6.out.2.1, HR6.out.1, HR6.out.2.2.1, HR6.out.2.2.2.1, HR6.out.2.2.2.2.1, HR6.out.2.2.2.2.2.1, HR6.out.2.2.2.2.2.2⟩
        case measure => simp [intOf]; omega
    · obtain rfl : i = ps.length := by omega
      obtain ⟨-, hLi, hSh⟩ := hrow.out.tree (k := k) (a := a) (b := b) HK.out.1 HK.out.2.1 HK.out.2.2
      have hul := hus.out.1
      have hcp : ps.length ≤ c' := by have := hrow.out.own; rw [hul] at this; exact (own_cap this).1
      have HF : Hid (MadeT 36 (V.node k a b A c ps).abs w (.returned (.agg #[.int .i64 k, .int .u64 (a : Int), .int .u64 (b : Int), .slice A' ps.length c'])) (put4 W (w.heap.size + 1) (.int .i64 k) (.int .u64 (a : Int)) (.int .u64 (b : Int)) (.slice A' ps.length c'))) := by
        refine ⟨.node k a b A' c' us, by rw [← hul]; rfl, ?_, ?_, ?_, put4_below hbw (by omega) _ _ _ _⟩
        · rw [V.abs, V.abs, hus.out.2, List.take_length]
        · rw [put4_size]
          exact (hLi.keep fun p h1 _ => World.cell?_of_block (put4_else W (by omega) _ _ _ _)).more (by omega) (Nat.le_refl _)
        · exact (Shp.keepL _ hLi hSh fun g h1 _ => put4_else W (by omega) _ _ _ _).more (by omega)
      have HR : Hid ((put4 W (w.heap.size + 1) (.int .i64 k) (.int .u64 (a : Int)) (.int .u64 (b : Int)) (.slice A' ps.length c')).heap[w.heap.size + 1]? = _) := put4_row hq2.out _ _ _ _
      have e0 := cell_of_row W _ 0 _ _ _ hq3
      have e1 := cell_of_row W _ 1 _ _ _ hq3
      have e2 := cell_of_row W _ 2 _ _ _ hq3
      have e3 := cell_of_row W _ 3 _ _ _ hq3
      have f0 := cell_of_row W _ 0 _ _ _ hq2.out
      have f1 := cell_of_row W _ 1 _ _ _ hq2.out
      have f2 := cell_of_row W _ 2 _ _ _ hq2.out
      have f3 := cell_of_row W _ 3 _ _ _ hq2.out
      have z0 := frozen_of_row W (w.heap.size + 1) 0 _ _ hq2.out
      have z1 := frozen_of_row W (w.heap.size + 1) 1 _ _ hq2.out
      have z2 := frozen_of_row W (w.heap.size + 1) 2 _ _ hq2.out
      have z3 := frozen_of_row W (w.heap.size + 1) 3 _ _ hq2.out
      simp at e0 e1 e2 e3 f0 f1 f2 f3
      clear hus hrow hLi hSh hul hq1 hq2 hq3 hbw IH HL
      go_wp2
      show bodyPost _ _ _ _ _ (put4 W (w.heap.size + 1) (.int .i64 k) (.int .u64 (a : Int)) (.int .u64 (b : Int)) (.slice A' ps.length c'))
      have HR2 := HR.out
      have HF2 := HF.out
      clear HR HF f0 f1 f2 f3 e0 e1 e2 e3 z0 z1 z2 z3
      generalize put4 W (w.heap.size + 1) (.int .i64 k) (.int .u64 (a : Int)) (.int .u64 (b : Int)) (.slice A' ps.length c') = W2 at *
      have d0 : W2.cell? ⟨w.heap.size + 1, 0, none⟩ = some (.int .i64 k) := cell_of_row W2 _ 0 _ _ _ HR2
      have d1 : W2.cell? ⟨w.heap.size + 1, 1, none⟩ = some (.int .u64 (a : Int)) := cell_of_row W2 _ 1 _ _ _ HR2
      have d2 : W2.cell? ⟨w.heap.size + 1, 2, none⟩ = some (.int .u64 (b : Int)) := cell_of_row W2 _ 2 _ _ _ HR2
      have d3 : W2.cell? ⟨w.heap.size + 1, 3, none⟩ = some (.slice A' ps.length c') := cell_of_row W2 _ 3 _ _ _ HR2
      exact bodyPost_ret (v := .agg #[.int .i64 k, .int .u64 (a : Int), .int .u64 (b : Int), .slice A' ps.length c']) (by simp [results, Tryz.results38, go_sem, d0, d1, d2, d3]) rfl HF2
end Go.Proofs.YtiiiklenhmhccaaGreatDoor

namespace Go.Proofs.YtiiiklenhmhccaaGreatDoor
open Go Go.RowKit
set_option linter.unusedVariables false
structure NdR (d m : Nat) (s : List UInt8) (bad : Bool) (w w' : World) (k : Int) (a b n c m' : Nat) (A : Option Addr) (s' : List UInt8) (bad' : Bool) : Prop where
  len : s'.length ≤ s.length
  bd : bad = true → bad' = true ∧ m' ≤ m + d + 1
  ok : bad = false → m' ≤ 34 + d ∧ ((∃ t us, rdS d s = some (t, s') ∧ m + t.count ≤ 32 ∧ bad' = false ∧ m' = m + t.count ∧ (V.node k a b A c us).abs = t ∧ us.length = n ∧ Lies w' w.heap.size w'.heap.size (.node k a b A c us) ∧ Shp 27 w' w.heap.size (.node k a b A c us)) ∨
    ((∀ t r, rdS d s = some (t, r) → 32 < m + t.count) ∧ bad' = true))
def NdEnd (d m : Nat) (s : List UInt8) (bad : Bool) (g : Nat) (w : World) (e : Ending) (w' : World) : Prop :=
  ∃ (k : Int) (a b n c m' : Nat) (A : Option Addr) (s' : List UInt8) (bad' : Bool), e = .returned (.agg #[.int .i64 k, .int .u64 (a : Int), .int .u64 (b : Int), .slice A n c]) ∧ w.grownBy w' (some g) ∧ w'.heap[g]? = some (RdrC (m' : Int) s' bad') ∧ NdR d m s bad w w' k a b n c m' A s' bad'
def NodeOK (d : Nat) : Prop := ∀ (m : Nat) (s : List UInt8) (bad : Bool) (B g : Nat) (w : World), w.heap[g]? = some (RdrC (m : Int) s bad) → Env B w → B ≤ g → s.length ≤ 1000000 → (bad = false → m ≤ 32) → m ≤ 100 →
  Calls Tryz.prog 202 #[.pointer (some ⟨g, 0, none⟩), .int .i64 ((9 - d : Nat) : Int)] w (NdEnd d m s bad g w)
structure LsR (d m : Nat) (s : List UInt8) (bad : Bool) (w w' : World) (v : Value) (m' : Nat) (s' : List UInt8) (bad' : Bool) : Prop where
  len : s'.length ≤ s.length
  bd : bad = true → bad' = true ∧ m' ≤ m + d + 1
  ok : bad = false → m' ≤ 34 + d ∧ ((∃ us, listS (rdS d) s = some (V.absL us, s') ∧ m + T.countL (V.absL us) ≤ 32 ∧ bad' = false ∧ m' = m + T.countL (V.absL us) ∧ TRow 27 w.heap.size v us w') ∨
    ((∀ ts r, listS (rdS d) s = some (ts, r) → 32 < m + T.countL ts) ∧ bad' = true))
def LsEnd (d m : Nat) (s : List UInt8) (bad : Bool) (g : Nat) (w : World) (e : Ending) (w' : World) : Prop :=
  ∃ (n c m' : Nat) (A : Option Addr) (s' : List UInt8) (bad' : Bool), e = .returned (.slice A n c) ∧ w.grownBy w' (some g) ∧ w'.heap[g]? = some (RdrC (m' : Int) s' bad') ∧ LsR d m s bad w w' (.slice A n c) m' s' bad'
structure LsI (d m : Nat) (s : List UInt8) (bad : Bool) (w W : World) (v : Value) (mm : Nat) (ss : List UInt8) (bb : Bool) : Prop where
  len : ss.length ≤ s.length
  bd : bad = true → bb = true ∧ mm ≤ m + d + 1
  ok : bad = false → mm ≤ 34 + d ∧ ((∃ us, TRow 27 w.heap.size v us W ∧ bb = false ∧ mm = m + T.countL (V.absL us) ∧ mm ≤ 32 ∧ listS (rdS d) s = (moreS (rdS d) (ss.length + 1) ss).map fun x => (V.absL us ++ x.1, x.2)) ∨
    ((∀ ts r, listS (rdS d) s = some (ts, r) → 32 < m + T.countL ts) ∧ bb = true))
theorem new_raw (w : World) (E : TypeId) (x0 x1 x2 x3 : Value) : Rd (w.alloc (.cells #[x0, x1, x2, x3] E)) (w.heap.size + 1) 4 (some ⟨w.heap.size, 0, none⟩) 1 [x0, x1, x2, x3] := by
  refine ⟨rfl, fun _ => ⟨_, rfl, by simp, fun j x hx => ?_⟩⟩
  have hr := heap_alloc_new w (.cells #[x0, x1, x2, x3] E)
  have e : (⟨w.heap.size, 0, none⟩ : Addr).add j = ⟨w.heap.size, j, none⟩ := by unfold Addr.add; split <;> simp_all
  rw [e, cell_of_row _ _ j _ _ _ hr, ← hx]
  simp
section
variable {d m : Nat} {s : List UInt8} {bad : Bool}
theorem LsI.start {w w1 w2 : World} {k : Int} {a b n c m' g : Nat} {A : Option Addr} {s' : List UInt8} {bad' : Bool} (hm : bad = false → m ≤ 32) (hw1 : w.heap.size ≤ w1.heap.size) (hgr : w1.grownBy w2 (some g))
    (h41 : Lib.hasPrefix (Lib.trimPrefix s [40]) [41] = false) (h : NdR d m (Lib.trimPrefix s [40]) (bad || !Lib.hasPrefix s [40]) w1 w2 k a b n c m' A s' bad') :
    LsI d m s bad w (w2.alloc (.cells #[.int .i64 k, .int .u64 (a : Int), .int .u64 (b : Int), .slice A n c] 27)) (.slice (some ⟨w2.heap.size, 0, none⟩) 1 1) m' s' bad' := by
  refine ⟨Nat.le_trans h.len (trim_le _ _), fun hb => h.bd (by rw [hb]; rfl), fun hb => ?_⟩
  have hm := hm hb
  cases h40 : Lib.hasPrefix s [40] with
  | false =>
    obtain ⟨h1, h2⟩ := h.bd (by rw [hb, h40]; rfl)
    refine ⟨by omega, .inr ⟨fun ts r hl => ?_, h1⟩⟩
    unfold listS at hl
    rw [h40] at hl
    cases hl
  | true =>
    obtain ⟨h1, h2⟩ := h.ok (by rw [hb, h40]; rfl)
    have hu : listS (rdS d) s = (rdS d (Lib.trimPrefix s [40])).bind fun (t, r') => (moreS (rdS d) (r'.length + 1) r').map fun (ts, r2) => (t :: ts, r2) := by
      unfold listS
      rw [if_pos h40, if_neg (by rw [h41]; simp)]
    refine ⟨h1, ?_⟩
    rcases h2 with ⟨t, us, e1, e2, e3, e4, e5, e6, hL, hS⟩ | ⟨hno, hbad⟩
    · subst e6
      refine .inl ⟨[.node k a b A c us], ⟨?_, ?_⟩, e3, ?_, by omega, ?_⟩
      · have := World.ownsRow_lit (base := w.heap.size) (e := 27) (size := 4) w2 #[.int .i64 k, .int .u64 (a : Int), .int .u64 (b : Int), .slice A us.length c] 1 (by have := hgr.size; omega) (by decide) rfl
        exact this
      · intro u hu
        obtain rfl : u = .node k a b A c us := by simpa using hu
        have hb2 := below_new w2 (.cells #[.int .i64 k, .int .u64 (a : Int), .int .u64 (b : Int), .slice A us.length c] 27)
        exact ⟨w1.heap.size, w2.heap.size, hw1, hb2.size, hL.under (hb2.mono (Nat.le_refl _)), hS.under hb2, fun g' hg' => .inr (by have e : w2.heap.size = g' := Option.some.inj hg'; omega)⟩
      · rw [e4, ← e5]; simp [V.absL, T.countL]
      · rw [hu, e1]
        simp only [Option.bind_some]
        congr 1
        funext x
        simp [V.absL, e5]
    · refine .inr ⟨fun ts r hl => ?_, hbad⟩
      rw [hu] at hl
      obtain ⟨⟨t, r'⟩, h3, h4⟩ := Option.bind_eq_some_iff.1 hl
      obtain ⟨⟨ts', r2⟩, h5, he⟩ := Option.map_eq_some_iff.1 h4
      injection he with e1 e2
      subst e1
      have := hno _ _ h3
      rw [T.countL]
      omega
theorem LsI.step {w W W1 w2 w4 : World} {v v' : Value} {mm : Nat} {ss : List UInt8} {k : Int} {a b n c m' g : Nat} {A : Option Addr} {s' : List UInt8} {bad' : Bool} (h : LsI d m s bad w W v mm ss false)
    (hww : w.heap.size ≤ W.heap.size) (hg : g < w.heap.size) (hgr1 : W.grownBy W1 (some g)) (hgr2 : W1.grownBy w2 (some g)) (h44 : Lib.hasPrefix ss [44] = true) (hn : NdR d mm (Lib.trimPrefix ss [44]) false W1 w2 k a b n c m' A s' bad')
    (hst : Stp (w2.alloc (.cells #[.int .i64 k, .int .u64 (a : Int), .int .u64 (b : Int), .slice A n c] 27)) w4 v v')
    (ho : ∀ us, TRow 27 w.heap.size v us W → w4.ownsRow w.heap.size 27 4 v' (us.length + 1) (vCells us ++ [.int .i64 k, .int .u64 (a : Int), .int .u64 (b : Int), .slice A n c])) :
    LsI d m s bad w w4 v' m' s' bad' := by
  have hbf : bad = false := by
    cases hb : bad with
    | false => rfl
    | true => have := (h.bd hb).1; cases this
  refine ⟨Nat.le_trans (Nat.le_trans hn.len (trim_le _ _)) h.len, (fun hb => by rw [hbf] at hb; cases hb), fun hb => ?_⟩
  obtain ⟨h1, h2⟩ := h.ok hb
  obtain ⟨n1, n2⟩ := hn.ok rfl
  refine ⟨n1, ?_⟩
  rcases h2 with ⟨us, hT, -, hmm, h32, hspec⟩ | ⟨-, hx⟩
  · have hu : moreS (rdS d) (ss.length + 1) ss = (rdS d (Lib.trimPrefix ss [44])).bind fun (t, r') => (moreS (rdS d) ss.length r').map fun (ts, r2) => (t :: ts, r2) := by
      conv => lhs; unfold moreS
      rw [if_pos h44]
    have hlt := trim_lt h44
    rcases n2 with ⟨t, us2, e1, e2, e3, e4, e5, e6, hL, hS⟩ | ⟨hno, hbad⟩
    · subst e6
      have hT1 : TRow 27 w.heap.size v us W1 := hT.keep hgr1.size fun k hk1 hk2 => hgr1.block k hk2 (fun e => by injection e with e; omega)
      refine .inl ⟨us ++ [.node k a b A c us2], ?_, e3, ?_, by omega, ?_⟩
      · have hk2 : ∀ k, w.heap.size ≤ k → k < W1.heap.size → w2.heap[k]? = W1.heap[k]? := fun k hk1 hk2 => hgr2.block k hk2 (fun e => by injection e with e; omega)
        have hs2 := hgr2.size
        have hs1 := hgr1.size
        have hT2 : TRow 27 w.heap.size v us w2 := hT1.keep hs2 hk2
        have hb3 := below_new w2 (.cells #[.int .i64 k, .int .u64 (a : Int), .int .u64 (b : Int), .slice A us2.length c] 27)
        have hlt1 := own_lt hT1.own
        have hs4 := hst.grow.size
        have hrow : ∀ lo hi, (∀ g, v.ownBlock = some g → g < lo ∨ hi ≤ g) → hi ≤ w2.heap.size → ∀ g, v'.ownBlock = some g → g < lo ∨ hi ≤ g := by
          intro lo hi hv hh g' hg'
          rcases hst.row with e | ⟨q, e, hq⟩
          · exact hv g' (e ▸ hg')
          · rw [e] at hg'; injection hg' with hg'; have := hb3.size; omega
        have hkeep : ∀ lo hi, (∀ g, v.ownBlock = some g → g < lo ∨ hi ≤ g) → hi ≤ w2.heap.size → ∀ g, lo ≤ g → g < hi → w4.heap[g]? = w2.heap[g]? := by
          intro lo hi hv hh g' q1 q2
          refine (hst.grow.block g' (by have := hb3.size; omega) fun e => ?_).trans (hb3.block g' (by omega))
          rcases hv g' e.symm with h | h <;> omega
        refine ⟨by rw [List.length_append, vCells_append]; exact ho us hT, fun x hx => ?_⟩
        rcases List.mem_append.1 hx with hx | hx
        · obtain ⟨lo, hi, q1, q2, q3, q4, q5⟩ := hT2.el x hx
          have hk := hkeep lo hi q5 q2
          exact ⟨lo, hi, q1, by have := hb3.size; omega, q3.keep fun p hp hp2 => World.cell?_of_block (hk _ hp hp2), Shp.keepL x q3 q4 hk, hrow lo hi q5 q2⟩
        · obtain rfl : x = .node k a b A c us2 := by simpa using hx
          have hv : ∀ g, v.ownBlock = some g → g < W1.heap.size ∨ w2.heap.size ≤ g := fun g hg => .inl (hlt1 g hg)
          have hk := hkeep _ _ hv (Nat.le_refl _)
          exact ⟨W1.heap.size, w2.heap.size, by omega, by have := hb3.size; omega, hL.keep fun p hp hp2 => World.cell?_of_block (hk _ hp hp2), Shp.keepL _ hL hS hk, hrow _ _ hv (Nat.le_refl _)⟩
      · rw [e4, hmm, show V.absL (us ++ [.node k a b A c us2]) = V.absL us ++ [t] by rw [absL_map, List.map_append, ← absL_map, List.map_cons, List.map_nil, e5], countL_append]
        simp [T.countL]
        omega
      · rw [hspec, hu, e1]
        simp only [Option.bind_some]
        have hl := rdS_len d _ _ _ e1
        rw [moreS_fuel (rdS_len d) ss.length (s'.length + 1) s' (by omega) (Nat.le_refl _)]
        cases moreS (rdS d) (s'.length + 1) s' with
        | none => rfl
        | some x => simp [absL_map, e5]
    · refine .inr ⟨fun ts r hl => ?_, hbad⟩
      rw [hspec, hu] at hl
      obtain ⟨⟨ts1, r1⟩, hl, he⟩ := Option.map_eq_some_iff.1 hl
      obtain ⟨⟨t, r'⟩, h3, h4⟩ := Option.bind_eq_some_iff.1 hl
      obtain ⟨⟨ts', r2⟩, h5, he2⟩ := Option.map_eq_some_iff.1 h4
      injection he with e1 e2
      injection he2 with e3 e4
      subst e1 e3
      have := hno _ _ h3
      simp only [countL_append, T.countL]
      omega
  · cases hx
theorem LsI.done {w W w' : World} {v : Value} {mm g : Nat} {ss : List UInt8} {bb : Bool} (h : LsI d m s bad w W v mm ss bb) (hg : g < w.heap.size) (hgr : W.grownBy w' (some g)) (hww : w.heap.size ≤ W.heap.size) (h44 : bb = false → Lib.hasPrefix ss [44] = false) :
    LsR d m s bad w w' v mm (Lib.trimPrefix ss [41]) (bb || !Lib.hasPrefix ss [41]) := by
  refine ⟨Nat.le_trans (trim_le _ _) h.len, fun hb => ⟨by rw [(h.bd hb).1]; rfl, (h.bd hb).2⟩, fun hb => ?_⟩
  obtain ⟨h1, h2⟩ := h.ok hb
  refine ⟨h1, ?_⟩
  rcases h2 with ⟨us, hT, rfl, hmm, h32, hspec⟩ | ⟨hno, rfl⟩
  · have hu : moreS (rdS d) (ss.length + 1) ss = if Lib.hasPrefix ss [41] then some ([], Lib.trimPrefix ss [41]) else none := by
      conv => lhs; unfold moreS
      rw [if_neg (by rw [h44 rfl]; simp)]
    rw [hu] at hspec
    cases h41 : Lib.hasPrefix ss [41] with
    | true =>
      rw [h41, if_pos rfl] at hspec
      exact .inl ⟨us, by rw [hspec]; simp, by omega, rfl, hmm, hT.keep hgr.size fun k hk1 hk2 => hgr.block k hk2 (fun e => by injection e with e; omega)⟩
    | false =>
      rw [h41, if_neg (by simp)] at hspec
      exact .inr ⟨(fun ts r hl => by rw [hspec] at hl; cases hl), rfl⟩
  · exact .inr ⟨hno, rfl⟩
theorem LsR.empty {w w' : World} (hm : bad = false → m ≤ 32) (h41 : Lib.hasPrefix (Lib.trimPrefix s [40]) [41] = true) :
    LsR d m s bad w w' (.slice none 0 0) m (Lib.trimPrefix (Lib.trimPrefix s [40]) [41]) (bad || !Lib.hasPrefix s [40]) := by
  refine ⟨Nat.le_trans (trim_le _ _) (trim_le _ _), fun hb => ⟨by rw [hb]; rfl, by omega⟩, fun hb => ?_⟩
  have hm := hm hb
  refine ⟨by omega, ?_⟩
  cases h40 : Lib.hasPrefix s [40] with
  | true => exact .inl ⟨[], by unfold listS; rw [if_pos h40, if_pos h41]; rfl, by simp [V.absL, T.countL]; omega, by rw [hb]; rfl, by simp [V.absL, T.countL], TRow.nil _ _ _⟩
  | false => exact .inr ⟨(fun ts r hl => by unfold listS at hl; rw [h40] at hl; cases hl), by simp⟩
end
end Go.Proofs.YtiiiklenhmhccaaGreatDoor

namespace Go.Proofs.YtiiiklenhmhccaaGreatDoor
open Go Go.RowKit
set_option linter.unusedVariables false
theorem Tryz.infoE : (Tryz.prog.info? 27).map (fun i => (i.zero, i.size, i.bytes)) = some (some (.agg #[.int .i64 0, .int .u64 0, .int .u64 0, .slice none 0 0]), 4, 48) := by kernel_rfl
def ClEnd (E : TypeId) (n : Nat) (xs : List Value) (w : World) (e : Ending) (w' : World) : Prop :=
  ∃ A' c', e = .returned (.slice A' n c') ∧ w'.ownsRow w.heap.size E 4 (.slice A' n c') n xs ∧ Below w.heap.size w w'
set_option maxRecDepth 100000 in
theorem eclone_any (B : Nat) (A : Option Addr) (n c : Nat) (vs : List V) (w : World) (h : Rd w B 4 A n (vCells vs)) (hn : n ≤ 1000) :
    Calls Tryz.prog 156 #[.slice A n c] w (ClEnd 27 n (vCells vs) w) := by
  have hnil : ∀ wx, (binOp .eql 25 (.slice A n c) (.slice none 0 0)).run Tryz.prog wx = .ok (.bool A.isNone) wx := fun wx => Lib.run_eql_slice_nil wx 25 27 A n c 0 0 Tryz.underlying25
  cases A with
  | none =>
    have h0 : n = 0 := by
      rcases Nat.eq_zero_or_pos n with h0 | h0
      · exact h0
      · obtain ⟨ad, e, _⟩ := h.lies h0; cases e
    subst h0
    have hv : vCells vs = [] := List.eq_nil_of_length_eq_zero (by have := h.len; omega)
    have HV := Lib_hid hv
    clear h hv
    go_enter Tryz.func156, Tryz.ntmps156
    go_wp2
    go_ret
    exact ⟨none, 0, rfl, by rw [HV.out]; exact World.ownsRow_nil _ _ _ _, Below.refl _ _⟩
  | some ad =>
    obtain ⟨i0, hi, hz0, hz1, hz2⟩ := info_parts Tryz.infoE
    have hm1 : 0 + n ≤ maxLen := by unfold maxLen; omega
    have hm2 : (0 + n) * 48 ≤ 140737488355328 := by omega
    have hon : (w.alloc (.cells #[] 27)).ownsRow w.heap.size 27 4 (.slice (some ⟨w.heap.size, 0, none⟩) 0 0) 0 [] := World.ownsRow_lit w #[] 0 (Nat.le_refl _) (by decide) rfl
    have h2 : Rd (w.alloc (.cells #[] 27)) (w.heap.size + 1) 4 (some ad) n (vCells vs) := by
      refine ⟨h.len, fun hn => ?_⟩
      obtain ⟨ad', e, hb, hc⟩ := h.lies hn
      have hlt : ad'.block < w.heap.size := by
        have := World.block_lt_of_cell? w _ (hc 0 ((vCells vs)[0]'(by have := h.len; omega)) (List.getElem?_eq_getElem _))
        rwa [add_block] at this
      exact ⟨ad', e, by omega, fun j u hu => (World.cell?_alloc_lt w _ _ (by rw [add_block]; exact hlt)).trans (hc j u hu)⟩
    have hsz : w.heap.size ≤ (w.alloc (.cells #[] 27)).heap.size := by simp
    clear h
    go_enter Tryz.func156, Tryz.ntmps156
    go_wp2_with (at_builtin; (refine wpList_app rfl _ _ 25 rfl w.heap.size 27 i0 (.agg #[.int .i64 0, .int .u64 0, .int .u64 0, .slice none 0 0]) 4 48 Tryz.underlying25 hi hz0 hz1 hz2 rfl (by decide) _ 0 [] rfl hon (w.heap.size + 1) (some ad) n c (vCells vs) rfl h2 (v_one _) hm1 hm2 hsz ?_); intro v' w1 hown' hst; simp only [Nat.zero_add, List.nil_append] at hown'; obtain ⟨A2, c2, rfl, _⟩ := own_form hown')
    go_ret
    exact ⟨A2, c2, rfl, hown', ((Below.refl _ _).alloc (Nat.le_refl _) _).trans (hst.below hsz (fun k hk => by have : w.heap.size = k := (by injection hk); omega))⟩
theorem vCells_set (us ps : List V) (p : V) (r : List V) (A' : Option Addr) (c' : Nat) (qs : List V) (hp : ps = p :: r) :
    (vCells us ++ vCells ps).set (us.length * 4 + 3) (.slice A' qs.length c') = vCells (us ++ [.node p.kind p.a p.b A' c' qs]) ++ vCells r := by
  subst hp
  rw [List.set_append_right _ _ (by rw [vCells_length]; omega), vCells_length, show us.length * 4 + 3 - us.length * 4 = 3 by omega, vCells_append, List.append_assoc]
  congr 1
theorem Lies.stored {w : World} {lo hi g i : Nat} {v : V} (h : Lies w lo hi v) (hg : g < lo) (x : Value) : Lies (w.setCell ⟨g, i, none⟩ x) lo hi v :=
  h.keep fun p hlo _ => World.cell?_of_block (Below.heap_setCell w ⟨g, i, none⟩ x p.block (by show p.block ≠ g; omega))
def CopEnd (ps : List V) (w : World) (e : Ending) (w' : World) : Prop :=
  ∃ A' c' us, e = .returned (.slice A' us.length c') ∧ us.length = ps.length ∧ V.absL us = V.absL ps ∧ (∀ u ∈ us, Lies w' w.heap.size w'.heap.size u) ∧ w'.ownsRow w.heap.size 27 4 (.slice A' us.length c') us.length (vCells us) ∧ Below w.heap.size w w' ∧ ∀ u ∈ us, Shp 27 w' w.heap.size u
set_option maxRecDepth 100000 in
set_option maxHeartbeats 1600000 in
theorem copies_any : ∀ (v : V) (w : World) (lo hi : Nat), Lies w lo hi v → hi ≤ w.heap.size → v.abs.count ≤ 1000 → Calls Tryz.prog 88 #[v.sl] w (CopEnd v.parts w) := by
  refine V.ind fun k a b A c ps ih w lo hi hL hhi hct => ?_
  obtain ⟨hlen, hcap', -, -, -⟩ := hL.caps
  have hlc : ps.length ≤ 1000 := by
    rw [V.count_node] at hct
    have := length_le_countL (V.absL ps)
    rw [absL_length] at this
    omega
  have CL := eclone_any hi A ps.length c ps w hL.top.2.2.2.2.2 hlc
  have IH : Hid (∀ (i : Nat) (p : V), ps[i]? = some p → ∀ W, Below w.heap.size w W → Calls Tryz.prog 88 #[p.sl] W (CopEnd p.parts W)) := fun i p hp W hW => ih p (List.mem_of_getElem? hp) W lo hi ((hL.part (List.mem_of_getElem? hp)).under (hW.mono hhi)) (Nat.le_trans hhi hW.size) (hL.small hct hp).1
  have HB : Hid (∀ p ∈ ps, (-9223372036854775808 ≤ p.kind ∧ p.kind ≤ 9223372036854775807) ∧ p.a < 18446744073709551616 ∧ p.b < 18446744073709551616) := fun p hp => let ⟨h1, h2, h3, _⟩ := (hL.part hp).top; ⟨h1, h2, h3⟩
  clear ih hL hct
  show Calls Tryz.prog 88 #[.slice A ps.length c] w (CopEnd ps w)
  go_enter Tryz.func88, Tryz.ntmps88
  go_wp2_with fail
  refine CL.mono ?_
  rintro e w1 ⟨A1, c1, rfl, ho1, hb1⟩
  have hc1 := own_cap ho1
  have hsz1 := hb1.size
  have hlt1 := own_lt ho1
  have hge1 := own_ge ho1
  have HO1 : Hid (w1.ownsRow w.heap.size 27 4 (.slice A1 ps.length c1) ps.length (vCells [] ++ vCells (ps.drop 0))) := ho1
  clear CL ho1
  go_wp2
  go_loopw [9] (fun z W => ∃ (i : Nat) (us : List V), z = .int .i64 i ∧ i ≤ ps.length ∧ Hid (us.length = i ∧ V.absL us = V.absL (ps.take i) ∧ ∀ u ∈ us, Lies W w1.heap.size W.heap.size u ∧ Shp 27 W w1.heap.size u) ∧ W.ownsRow w.heap.size 27 4 (.slice A1 ps.length c1) ps.length (vCells us ++ vCells (ps.drop i)) ∧ w1.heap.size ≤ W.heap.size ∧ Below w.heap.size w W) (fun z _ => ps.length - (intOf z).toNat)
  case atStart => exact ⟨0, [], rfl, Nat.zero_le _, Lib_hid ⟨rfl, by simp [V.absL], by simp⟩, HO1.out, Nat.le_refl _, hb1⟩
  case round =>
    clear HO1
    obtain ⟨i, us, rfl, hi1, hus, ho, hwz, hbw⟩ := hrel
    rename World => W
    by_cases hlt : i < ps.length
    · obtain ⟨g, cap, hv, hgw, hgl⟩ := ho.form (by omega)
      have hA : A1 = some ⟨g, 0, none⟩ := by injection hv
      subst hA
      have hg1 : g < w1.heap.size := hlt1 g rfl
      obtain ⟨p, hp⟩ : ∃ p, ps[i]? = some p := ⟨_, List.getElem?_eq_getElem hlt⟩
      have hdr : ps.drop i = p :: ps.drop (i + 1) := by
        rw [List.drop_eq_getElem_cons hlt]
        congr 1
        exact (List.getElem?_eq_some_iff.1 hp).2
      have hcell : W.cell? ⟨g, i * 4 + 3, none⟩ = some p.sl := by
        rw [ho.cellAt (i * 4 + 3) (by omega), hdr, List.getElem?_append_right (by rw [vCells_length, hus.out.1]; omega), vCells_length, hus.out.1, show i * 4 + 3 - i * 4 = 3 by omega]
        rfl
      have CH := IH.out i p hp W hbw
      have HO := Lib_hid ho
      have HP := Lib_hid (And.intro hp hdr)
      obtain ⟨hbk, hba, hbb⟩ := HB.out p (List.mem_of_getElem? hp)
      have HBP := Lib_hid (And.intro hbk (And.intro hba hbb))
      have hps : p.sl = .slice p.addr p.parts.length p.cap := rfl
      rw [hps] at hcell CH
      have hszw := hbw.size
      clear hp hdr ho hv hps hbk hba hbb
      generalize p.addr = pA at *
      generalize p.cap = pc at *
      go_wp2_with fail
      refine CH.mono ?_
      rintro e w2 ⟨A2, c2, qs, rfl, hql, hqa, hqL, ho2, hb2, hqS⟩
      have ho2r := own_below HO.out hb2 (own_lt HO.out)
      have hf2 := ho2r.frozenAt (i * 4 + 3)
      have hc2 : w2.cell? ⟨g, i * 4 + 3, none⟩ = some (.slice pA p.parts.length pc) := (hb2.cell (p := ⟨g, i * 4 + 3, none⟩) hgl).trans hcell
      have ST := ho2r.stored (i * 4 + 3) (.slice A2 qs.length c2)
      have hcp2 := own_cap ho2
      have hsz2 := hb2.size
      have hge2 := own_ge ho2
      have hset : (vCells us ++ vCells (ps.drop i)).set (i * 4 + 3) (.slice A2 qs.length c2) = vCells (us ++ [.node p.kind p.a p.b A2 c2 qs]) ++ vCells (ps.drop (i + 1)) := by
        rw [← hus.out.1]
        rw [hus.out.1]
        have := vCells_set us (ps.drop i) p (ps.drop (i + 1)) A2 c2 qs HP.out.2
        rwa [hus.out.1] at this
      rw [hset] at ST
      have hnew : Lies w2 w1.heap.size w2.heap.size (.node p.kind p.a p.b A2 c2 qs) := .mk _ _ _ _ _ _ HBP.out.1 HBP.out.2.1 HBP.out.2.2 (Rd.own ho2) hcp2 (fun ad e hn => by
        subst e
        obtain ⟨g2, cap2, hv2, _, _⟩ := ho2.form hn
        injection hv2 with e2
        injection e2 with e2
        subst e2
        have := hge2 g2 rfl
        show w1.heap.size ≤ g2
        omega) (fun q hq => (hqL q hq).more (by omega) (Nat.le_refl _))
      have hnewS : Shp 27 w2 w1.heap.size (.node p.kind p.a p.b A2 c2 qs) := Shp.own (base := W.heap.size) _ _ _ ho2 hwz (fun q hq => (hqS q hq).more hwz)
      have hall : ∀ u ∈ us ++ [.node p.kind p.a p.b A2 c2 qs], Lies (w2.setCell ⟨g, i * 4 + 3, none⟩ (.slice A2 qs.length c2)) w1.heap.size (w2.setCell ⟨g, i * 4 + 3, none⟩ (.slice A2 qs.length c2)).heap.size u ∧ Shp 27 (w2.setCell ⟨g, i * 4 + 3, none⟩ (.slice A2 qs.length c2)) w1.heap.size u := by
        intro u hu
        have hs3 : (w2.setCell ⟨g, i * 4 + 3, none⟩ (.slice A2 qs.length c2)).heap.size = w2.heap.size := by simp [World.setCell]
        rw [hs3]
        rcases List.mem_append.1 hu with hu | hu
        · exact ⟨(((hus.out.2.2 u hu).1.under hb2).more (Nat.le_refl _) hsz2).stored hg1 _, ((hus.out.2.2 u hu).2.under hb2).aside hg1 _⟩
        · obtain rfl : u = .node p.kind p.a p.b A2 c2 qs := by simpa using hu
          exact ⟨hnew.stored hg1 _, hnewS.aside hg1 _⟩
      have habs : V.absL (us ++ [.node p.kind p.a p.b A2 c2 qs]) = V.absL (ps.take (i + 1)) := by
        rw [absL_take HP.out.1, absL_map, List.map_append, ← absL_map, hus.out.2.1]
        congr 1
        show [V.abs _] = _
        rw [V.abs, hqa]
        cases p with
        | node pk pa pb pA' pc' pps => rw [V.abs]; rfl
      have hlen' : (us ++ [V.node p.kind p.a p.b A2 c2 qs]).length = i + 1 := by rw [List.length_append, hus.out.1]; rfl
      have hbw3 := (hbw.trans (hb2.mono hszw)).grown ST.2 (by have := hb2.size; omega) (fun k hk => by have e2 : g = k := Option.some.inj hk; omega)
      have HU := Lib_hid (And.intro hlen' (And.intro habs hall))
      have HS := Lib_hid ST.1
      have hsz3 : w1.heap.size ≤ (w2.setCell ⟨g, i * 4 + 3, none⟩ (.slice A2 qs.length c2)).heap.size := by have := ST.2.size; omega
      clear CH hql hqa hqL hqS ho2 hb2 ho2r ST hset hnew hnewS hall habs hlen' hge2 hcell
      go_wp2
      go_roundw
      case rel => exact ⟨i + 1, us ++ [.node p.kind p.a p.b A2 c2 qs], by go_num, by omega, HU, HS.out, hsz3, hbw3⟩
      case measure => simp [intOf]; omega
    · obtain rfl : i = ps.length := by omega
      have PF : Hid (CopEnd ps w (.returned (.slice A1 ps.length c1)) W) := by
        obtain ⟨h1, h2, h3⟩ := hus.out
        rw [List.take_length] at h2
        refine ⟨A1, c1, us, by rw [h1], h1, h2, fun u hu => (h3 u hu).1.more hsz1 (Nat.le_refl _), ?_, hbw, fun u hu => (h3 u hu).2.more hsz1⟩
        have := ho
        rw [List.drop_length] at this
        rw [h1]
        simpa [vCells] using this
      clear hus ho
      go_wp2
      go_ret
      exact PF.out
end Go.Proofs.YtiiiklenhmhccaaGreatDoor
