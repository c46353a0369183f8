/-
  Layer 4: docs.Expr: the document's tree of a program's, in new memory.
-/
import Derived.Test.YtiijdacnfhiagaaGreatDoorTrw
import Derived.Test.YtiijdacnfhiagaaGreatDoorTp4
import Derived.Test.YtiijdacnfhiagaaGreatDoorTdn
import Derived.Great.BuildSlice
import Derived.Deep.DeepCutAuto
import Derived.Deep.CutBlock
import Derived.Deep.RegionHeld3
import Derived.Deep.RegionLaw
namespace Go.Proofs.YtiijdacnfhiagaaGreatDoor
open Go Go.RowKit
set_option linter.unusedVariables false

theorem Tryz.infoR : (Tryz.prog.info? 30).map (fun i => (i.zero, i.size, i.bytes)) = some (some (.agg #[.int .i64 0, .int .u64 0, .int .u64 0, .slice none 0 0]), 4, 48) := by kernel_rfl

theorem new_val (w : World) (E : TypeId) (u : V) : Rd (w.alloc (.cells #[.int .i64 u.kind, .int .u64 (u.a : Int), .int .u64 (u.b : Int), u.sl] E)) (w.heap.size + 1) 4 (some ⟨w.heap.size, 0, none⟩) 1 (vCells [u]) := by
  refine ⟨by rw [vCells_length]; rfl, fun _ => ⟨_, rfl, by simp, fun j x hx => ?_⟩⟩
  have hr := heap_alloc_new w (.cells #[.int .i64 u.kind, .int .u64 (u.a : Int), .int .u64 (u.b : Int), u.sl] E)
  have e : (⟨w.heap.size, 0, none⟩ : Addr).add j = ⟨w.heap.size, j, none⟩ := by unfold Addr.add; split <;> simp_all
  rw [e, cell_of_row _ _ j _ _ _ hr]
  have hv : vCells [u] = [.int .i64 u.kind, .int .u64 (u.a : Int), .int .u64 (u.b : Int), u.sl] := rfl
  rw [hv] at hx
  rw [← hx]
  simp

set_option maxRecDepth 100000 in
set_option maxHeartbeats 1600000 in
theorem dexpr_any : ∀ (v : V) (w : World) (lo hi : Nat), Lies w lo hi v → hi ≤ w.heap.size → v.abs.count ≤ 1000 → Calls Tryz.prog 10 #[v.val] w (MadeT 30 v.abs w) := by
  refine V.ind fun k a b A c ps ih w lo hi hL hhi hct => ?_
  obtain ⟨hlen, hcap', hk, ha, hb⟩ := hL.caps
  have hlc : ps.length ≤ 1000 := by
    rw [V.count_node] at hct
    have := length_le_countL (V.absL ps)
    rw [absL_length] at this
    omega
  have IH : Hid (∀ (i : Nat) (p : V), ps[i]? = some p → ∀ W, Below w.heap.size w W → Calls Tryz.prog 10 #[p.val] W (MadeT 30 p.abs W)) := fun i p hp W hW => ih p (List.mem_of_getElem? hp) W lo hi ((hL.part (List.mem_of_getElem? hp)).under (hW.mono hhi)) (Nat.le_trans hhi hW.size) (hL.small hct hp).1
  have HL : Hid (∀ W, Below w.heap.size w W → Lies W lo hi (.node k a b A c ps)) := fun W hW => hL.under (hW.mono hhi)
  have HK := Lib_hid (And.intro hk (And.intro ha hb))
  clear ih hL hct
  show Calls Tryz.prog 10 #[.agg #[.int .i64 k, .int .u64 (a : Int), .int .u64 (b : Int), .slice A ps.length c]] w _
  obtain ⟨i0, hi0, hz0, hz1, hz2⟩ := info_parts Tryz.infoR
  have r1 := heap_alloc_new w (.cells #[.int .i64 k, .int .u64 (a : Int), .int .u64 (b : Int), .slice A ps.length c] 25)
  have b1 := below_new w (.cells #[.int .i64 k, .int .u64 (a : Int), .int .u64 (b : Int), .slice A ps.length c] 25)
  obtain ⟨w1, hw1⟩ : ∃ w1, w1 = w.alloc (.cells #[.int .i64 k, .int .u64 (a : Int), .int .u64 (b : Int), .slice A ps.length c] 25) := ⟨_, rfl⟩
  have s1 : w1.heap.size = w.heap.size + 1 := by rw [hw1]; simp
  rw [← hw1] at r1 b1
  have r2 := heap_alloc_new w1 (.cells #[.int .i64 0, .int .u64 0, .int .u64 0, .slice none 0 0] 30)
  have b2 := below_new w1 (.cells #[.int .i64 0, .int .u64 0, .int .u64 0, .slice none 0 0] 30)
  obtain ⟨w2, hw2⟩ : ∃ w2, w2 = w1.alloc (.cells #[.int .i64 0, .int .u64 0, .int .u64 0, .slice none 0 0] 30) := ⟨_, rfl⟩
  have s2 : w2.heap.size = w.heap.size + 2 := by rw [hw2]; simp [s1]
  rw [← hw2, s1] at r2 b2
  have r3 := heap_alloc_new w2 (.cells #[.int .i64 k, .int .u64 (a : Int), .int .u64 (b : Int), .slice none 0 0] 30)
  have b3 := below_new w2 (.cells #[.int .i64 k, .int .u64 (a : Int), .int .u64 (b : Int), .slice none 0 0] 30)
  obtain ⟨w3, hw3⟩ : ∃ w3, w3 = w2.alloc (.cells #[.int .i64 k, .int .u64 (a : Int), .int .u64 (b : Int), .slice none 0 0] 30) := ⟨_, rfl⟩
  have s3 : w3.heap.size = w.heap.size + 3 := by rw [hw3]; simp [s2]
  rw [← hw3, s2] at r3 b3
  have r12 := (b2.block _ (by omega)).trans r1
  have r13 := (b3.block _ (by omega)).trans r12
  have r23 := (b3.block _ (by omega)).trans r2
  have hbw := (b1.trans (b2.mono (by omega))).trans (b3.mono (by omega))
  have HQ := Lib_hid (And.intro r13 (And.intro r23 (And.intro r3 (And.intro hbw s3))))
  have e0 := cell_of_row w2 _ 0 _ _ _ r12
  have e1 := cell_of_row w2 _ 1 _ _ _ r12
  have e2 := cell_of_row w2 _ 2 _ _ _ r12
  simp at e0 e1 e2
  subst hw3 hw2 hw1
  clear r1 r2 r3 r12 r13 r23 b1 b2 b3 hbw s3
  go_enter Tryz.func10, Tryz.ntmps10
  go_upto_region 2 with (fail)
  obtain ⟨hq1, hq2, hq3, hbw, hs4⟩ := HQ.out
  clear HQ e0 e1 e2 s1 s2
  generalize ((w.alloc _).alloc _).alloc (.cells #[.int .i64 k, .int .u64 (a : Int), .int .u64 (b : Int), .slice none 0 0] 30) = w4 at *
  have H0 : Hid (TRow 30 (w.heap.size + 3) (.slice none 0 0) [] w4) := TRow.nil _ _ _
  have HQ2 := Lib_hid hq2
  clear hq2
  go_wp2
  go_loopw [4] (fun z W => ∃ (i : Nat) (us : List V) (A' : Option Addr) (c' : Nat), z = .int .i64 i ∧ i ≤ ps.length ∧ Hid (us.length = i ∧ V.absL us = V.absL (ps.take i)) ∧ Hid (TRow 30 (w.heap.size + 3) (.slice A' i c') us W) ∧
      W.heap[w.heap.size]? = some (.cells #[.int .i64 k, .int .u64 (a : Int), .int .u64 (b : Int), .slice A ps.length c] 25 (0, 0)) ∧
      Hid (W.heap[w.heap.size + 1]? = some (.cells #[.int .i64 0, .int .u64 0, .int .u64 0, .slice none 0 0] 30 (0, 0))) ∧
      W.heap[w.heap.size + 2]? = some (.cells #[.int .i64 k, .int .u64 (a : Int), .int .u64 (b : Int), .slice A' i c'] 30 (0, 0)) ∧ w.heap.size + 3 ≤ W.heap.size ∧ Below w.heap.size w W) (fun z _ => ps.length - (intOf z).toNat)
  case atStart => exact ⟨0, [], none, 0, rfl, Nat.zero_le _, Lib_hid ⟨rfl, by simp [V.absL]⟩, H0, hq1, HQ2, hq3, by omega, hbw⟩
  case round =>
    clear hq1 HQ2 hq3 H0 hs4 hbw
    obtain ⟨i, us, A', c', rfl, hi1, hus, hrow, hq1, hq2, hq3, hsz, hbw⟩ := hrel
    rename World => W
    have c3 := cell_of_row W _ 3 _ _ _ hq1
    simp at c3
    by_cases hlt : i < ps.length
    · obtain ⟨bb, off, p, rfl, hbb, hlb, hp, hLp, d0, d1, d2, d3⟩ := (HL.out W hbw).nth hlt
      have g3 := cell_of_row W _ 3 _ _ _ hq3
      simp at g3
      have CH : Hid (∀ W' : World, Below W.heap.size W W' → Calls Tryz.prog 10 #[.agg #[.int .i64 p.kind, .int .u64 (p.a : Int), .int .u64 (p.b : Int), .slice p.addr p.parts.length p.cap]] W' fun e w' => ∃ u : V, e = .returned (.agg #[.int .i64 u.kind, .int .u64 (u.a : Int), .int .u64 (u.b : Int), .slice u.addr u.parts.length u.cap]) ∧ u.abs = p.abs ∧ Lies w' W'.heap.size w'.heap.size u ∧ Shp 30 w' W'.heap.size u ∧ Below W'.heap.size W' w') := fun W' hW' => (IH.out i p hp W' (hbw.trans (hW'.mono hbw.size))).mono fun e w' ⟨u, he, hr⟩ => ⟨u, he, hr⟩
      have S8 : Hid (∀ W' : World, (∀ g, g < w.heap.size + 1 → W'.heap[g]? = W.heap[g]?) → W'.cell? ⟨w.heap.size, 3, none⟩ = some (.slice (some ⟨bb, off, none⟩) ps.length c) ∧
          W'.cell? ⟨bb, off + i * 4, none⟩ = some (.int .i64 p.kind) ∧ W'.cell? ⟨bb, off + i * 4 + 1, none⟩ = some (.int .u64 (p.a : Int)) ∧ W'.cell? ⟨bb, off + i * 4 + 2, none⟩ = some (.int .u64 (p.b : Int)) ∧ W'.cell? ⟨bb, off + i * 4 + 3, none⟩ = some (.slice p.addr p.parts.length p.cap)) := by
        intro W' hk
        have key : ∀ g j, g < w.heap.size + 1 → W'.cell? ⟨g, j, none⟩ = W.cell? ⟨g, j, none⟩ := fun g j hg => World.cell?_of_block (a := ⟨g, j, none⟩) (hk g hg)
        exact ⟨(key _ _ (by omega)).trans c3, (key _ _ (by omega)).trans d0, (key _ _ (by omega)).trans d1, (key _ _ (by omega)).trans d2, (key _ _ (by omega)).trans d3⟩
      have HP := Lib_hid hp
      have hoi := hrow.out.own
      rw [hus.out.1] at hoi
      have hcp := own_cap hoi
      have hm1 : i + 1 ≤ maxLen := by unfold maxLen; omega
      have hm2 : (i + 1) * 48 ≤ 140737488355328 := by omega
      have HO : Hid (∀ w2 : World, Below W.heap.size W w2 → w2.ownsRow (w.heap.size + 3) 30 4 (.slice A' i c') i (vCells us)) := fun w2 h2 => by
        have := own_below hrow.out.own h2 (own_lt hrow.out.own)
        rwa [hus.out.1] at this
      have HE : Hid (∀ (w2 w3 w5 : World) (u : V) (v' : Value), Below W.heap.size W w2 → u.abs = p.abs → Lies w2 W.heap.size w2.heap.size u → Shp 30 w2 W.heap.size u → Below w2.heap.size w2 w3 → Stp w3 w5 (.slice A' i c') v' →
          w5.ownsRow (w.heap.size + 3) 30 4 v' (i + 1) (vCells us ++ vCells [u]) →
          ((us ++ [u]).length = i + 1 ∧ V.absL (us ++ [u]) = V.absL (ps.take (i + 1))) ∧ TRow 30 (w.heap.size + 3) v' (us ++ [u]) w5 ∧ (∀ g, g < w.heap.size + 3 → w5.heap[g]? = W.heap[g]?) ∧ w.heap.size + 3 ≤ w5.heap.size ∧ Below w.heap.size w w5) := by
        intro w2 w3 w5 u v' hb2 hua huL huS hb3 hst ho
        have hge := own_ge hrow.out.own
        have hs2 := hb2.size
        have hs3 := hb3.size
        refine ⟨⟨by simp [hus.out.1], ?_⟩, ?_, fun g hg => ?_, by have := hst.grow.size; omega, ?_⟩
        · rw [absL_take HP.out, absL_map, List.map_append, ← absL_map, hus.out.2, List.map_cons, List.map_nil, hua]
        · have := hrow.out.push (w2 := w2) (w3 := w3) (w4 := w5) (v' := v') (u := u) hsz hb2 huL huS hb3 hst (by rw [hus.out.1]; exact ho)
          exact this
        · exact (hst.grow.block g (by omega) (fun e => by have := hge g e.symm; omega)).trans ((hb3.block g (by omega)).trans (hb2.block g (by omega)))
        · exact ((hbw.trans (hb2.mono hbw.size)).trans (hb3.mono (by have := hbw.size; omega))).trans (hst.below (by have := hbw.size; omega) fun k hk => by have := hge k hk; omega)
      have HQ := Lib_hid (And.intro hq1 (And.intro hq2.out hq3))
      have HV : Hid (∀ (w2 : World) (u : V), Rd (w2.alloc (.cells #[.int .i64 u.kind, .int .u64 (u.a : Int), .int .u64 (u.b : Int), .slice u.addr u.parts.length u.cap] 30)) (w2.heap.size + 1) 4 (some ⟨w2.heap.size, 0, none⟩) 1 (vCells [u])) := fun w2 u => new_val w2 _ u
      clear hus hrow hoi hq1 hq2 hq3 d0 d1 d2 d3 hp hLp
      go_wp2
      clear c3
      obtain ⟨s0, s1', s2', s3', s4'⟩ := S8.out W.drew (fun _ _ => rfl)
      have g3' : W.drew.cell? ⟨w.heap.size + 2, 3, none⟩ = some (.slice A' i c') := g3
      have gl : w.heap.size + 2 < W.drew.heap.size := by show _ < W.heap.size; omega
      clear g3
      go_region_law
        ((first
          | ((refine step_app rfl (.tmp 20) (.tmp 27) 28 rfl (w.heap.size + 3) 30 i0 (.agg #[.int .i64 0, .int .u64 0, .int .u64 0, .slice none 0 0]) 4 48 Tryz.underlying28 hi0 hz0 hz1 hz2 rfl (by decide) (.slice A' i c') i (vCells us) rfl (own_below (HO.out w2 hb2) (below_new w2 _) (own_lt (HO.out w2 hb2))) (w2.heap.size + 1) (some ⟨w2.heap.size, 0, none⟩) 1 1 (vCells [u]) rfl (HV.out w2 u) (v_one _) hm1 hm2 (by have := hb2.size; simp; omega) ?_); intro v5 w5 ho5 hs5; have hx := HE.out w2 _ w5 u v5 hb2 hua huL huS (below_new w2 _) hs5 ho5; obtain ⟨A5, c5, rfl, _⟩ := own_form ho5; have hk5 := hx.2.2.1; have hq5 := (hk5 (w.heap.size + 2) (by omega)).trans HQ.out.2.2; have g5 := cell_of_row w5 _ 3 _ _ _ hq5; have z5 := frozen_of_row w5 _ 3 _ _ hq5; simp at g5)
          | (go_simp; refine (CH.out _ (by exact below_like4 (Below.refl _ _) rfl rfl rfl rfl)).mono ?_; rintro e w2 ⟨u, rfl, hua, huL, huS, hb2'⟩; dsimp only; have hb2 : Below W.heap.size W w2 := ⟨hb2'.os, hb2'.tape, hb2'.output, hb2'.size, hb2'.block⟩; have hk2 : ∀ g, g < w.heap.size + 3 → w2.heap[g]? = W.heap[g]? := (fun g hg => hb2.block g (by omega)); have g2 : w2.cell? ⟨w.heap.size + 2, 3, none⟩ = some (.slice A' i c') := (World.cell?_of_block (a := ⟨w.heap.size + 2, 3, none⟩) (hk2 (w.heap.size + 2) (by omega))).trans g3'; have gl2 : w.heap.size + 2 < w2.heap.size := (by have := hb2.size; omega); obtain ⟨t0, t1, t2, t3, t4⟩ := S8.out w2 (fun g hg => hk2 g (by omega)))))
      all_goals
        have hr6 := hx.2.1.keep (w' := w5.setCell ⟨w.heap.size + 2, 3, none⟩ (.slice A5 (i + 1) c5)) (by simp [World.setCell]) (fun g hg _ => Below.heap_setCell w5 ⟨w.heap.size + 2, 3, none⟩ _ g (by show g ≠ w.heap.size + 2; omega))
        have q61 := (Below.heap_setCell w5 ⟨w.heap.size + 2, 3, none⟩ (.slice A5 (i + 1) c5) w.heap.size (by show w.heap.size ≠ w.heap.size + 2; omega)).trans ((hk5 _ (by omega)).trans HQ.out.1)
        have q62 := (Below.heap_setCell w5 ⟨w.heap.size + 2, 3, none⟩ (.slice A5 (i + 1) c5) (w.heap.size + 1) (by show w.heap.size + 1 ≠ w.heap.size + 2; omega)).trans ((hk5 _ (by omega)).trans HQ.out.2.1)
        have q63 := Joins.block_setCell (i := 3) hq5 (.slice A5 (i + 1) c5)
        have b6 := hx.2.2.2.2.setCell (p := ⟨w.heap.size + 2, 3, none⟩) (by show w.heap.size ≤ w.heap.size + 2; omega) (.slice A5 (i + 1) c5)
        have s6 : w.heap.size + 3 ≤ (w5.setCell ⟨w.heap.size + 2, 3, none⟩ (.slice A5 (i + 1) c5)).heap.size := by have := hx.2.2.2.1; simpa [World.setCell] using this
        have HR6 := Lib_hid (And.intro hr6 (And.intro hx.1 (And.intro q61 (And.intro q62 (And.intro q63 (And.intro s6 b6))))))
        clear hr6 q61 q62 q63 b6 s6 hx hk5 hq5 g5 z5 ho5 hs5 hua huL huS hb2 hb2' hk2 g2 gl2 t0 t1 t2 t3 t4 s0 s1' s2' s3' s4' g3' gl CH HE HO HV S8
        generalize w5.setCell ⟨w.heap.size + 2, 3, none⟩ (.slice A5 (i + 1) c5) = w6 at *
        go_wp2
        go_roundw
        case rel => exact ⟨i + 1, us ++ [u], A5, c5, by go_num, by omega, HR6.out.2.1, HR6.out.1, HR6.out.2.2.1, HR6.out.2.2.2.1, HR6.out.2.2.2.2.1, HR6.out.2.2.2.2.2.1, HR6.out.2.2.2.2.2.2⟩
        case measure => simp [intOf]; omega
    · obtain rfl : i = ps.length := by omega
      obtain ⟨-, hLi, hSh⟩ := hrow.out.tree (k := k) (a := a) (b := b) HK.out.1 HK.out.2.1 HK.out.2.2
      have hul := hus.out.1
      have hcp : ps.length ≤ c' := by have := hrow.out.own; rw [hul] at this; exact (own_cap this).1
      have HF : Hid (MadeT 30 (V.node k a b A c ps).abs w (.returned (.agg #[.int .i64 k, .int .u64 (a : Int), .int .u64 (b : Int), .slice A' ps.length c'])) (put4 W (w.heap.size + 1) (.int .i64 k) (.int .u64 (a : Int)) (.int .u64 (b : Int)) (.slice A' ps.length c'))) := by
        refine ⟨.node k a b A' c' us, by rw [← hul]; rfl, ?_, ?_, ?_, put4_below hbw (by omega) _ _ _ _⟩
        · rw [V.abs, V.abs, hus.out.2, List.take_length]
        · rw [put4_size]
          exact (hLi.keep fun p h1 _ => World.cell?_of_block (put4_else W (by omega) _ _ _ _)).more (by omega) (Nat.le_refl _)
        · exact (Shp.keepL _ hLi hSh fun g h1 _ => put4_else W (by omega) _ _ _ _).more (by omega)
      have HR : Hid ((put4 W (w.heap.size + 1) (.int .i64 k) (.int .u64 (a : Int)) (.int .u64 (b : Int)) (.slice A' ps.length c')).heap[w.heap.size + 1]? = _) := put4_row hq2.out _ _ _ _
      have e0 := cell_of_row W _ 0 _ _ _ hq3
      have e1 := cell_of_row W _ 1 _ _ _ hq3
      have e2 := cell_of_row W _ 2 _ _ _ hq3
      have e3 := cell_of_row W _ 3 _ _ _ hq3
      have f0 := cell_of_row W _ 0 _ _ _ hq2.out
      have f1 := cell_of_row W _ 1 _ _ _ hq2.out
      have f2 := cell_of_row W _ 2 _ _ _ hq2.out
      have f3 := cell_of_row W _ 3 _ _ _ hq2.out
      have z0 := frozen_of_row W (w.heap.size + 1) 0 _ _ hq2.out
      have z1 := frozen_of_row W (w.heap.size + 1) 1 _ _ hq2.out
      have z2 := frozen_of_row W (w.heap.size + 1) 2 _ _ hq2.out
      have z3 := frozen_of_row W (w.heap.size + 1) 3 _ _ hq2.out
      simp at e0 e1 e2 e3 f0 f1 f2 f3
      clear hus hrow hLi hSh hul hq1 hq2 hq3 hbw IH HL
      go_wp2
      show bodyPost _ _ _ _ _ (put4 W (w.heap.size + 1) (.int .i64 k) (.int .u64 (a : Int)) (.int .u64 (b : Int)) (.slice A' ps.length c'))
      have HR2 := HR.out
      have HF2 := HF.out
      clear HR HF f0 f1 f2 f3 e0 e1 e2 e3 z0 z1 z2 z3
      generalize put4 W (w.heap.size + 1) (.int .i64 k) (.int .u64 (a : Int)) (.int .u64 (b : Int)) (.slice A' ps.length c') = W2 at *
      have d0 : W2.cell? ⟨w.heap.size + 1, 0, none⟩ = some (.int .i64 k) := cell_of_row W2 _ 0 _ _ _ HR2
      have d1 : W2.cell? ⟨w.heap.size + 1, 1, none⟩ = some (.int .u64 (a : Int)) := cell_of_row W2 _ 1 _ _ _ HR2
      have d2 : W2.cell? ⟨w.heap.size + 1, 2, none⟩ = some (.int .u64 (b : Int)) := cell_of_row W2 _ 2 _ _ _ HR2
      have d3 : W2.cell? ⟨w.heap.size + 1, 3, none⟩ = some (.slice A' ps.length c') := cell_of_row W2 _ 3 _ _ _ HR2
      exact bodyPost_ret (v := .agg #[.int .i64 k, .int .u64 (a : Int), .int .u64 (b : Int), .slice A' ps.length c']) (by simp [results, Tryz.results10, go_sem, d0, d1, d2, d3]) rfl HF2

end Go.Proofs.YtiijdacnfhiagaaGreatDoor
