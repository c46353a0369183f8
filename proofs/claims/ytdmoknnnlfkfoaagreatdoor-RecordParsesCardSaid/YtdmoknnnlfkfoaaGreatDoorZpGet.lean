/-
  Layer 4: docs.Expr: the document's tree of a program's, in new memory.
  Layer 4: the program's reader: how node and list end; the steps between.
  Contract of the program's varint.Get, for every input.
-/
import Derived.Test.YtdmoknnnlfkfoaaGreatDoorZpTrw
import Derived.Test.YtdmoknnnlfkfoaaGreatDoorZpTp4
import Derived.Test.YtdmoknnnlfkfoaaGreatDoorZpTcf
import Derived.Great.BuildSlice
import Derived.Deep.DeepCutAuto
import Derived.Deep.CutBlock
import Derived.Deep.RegionHeld3
import Derived.Deep.RegionLaw
import Derived.Handy
import Derived.Laws.BitsAllLaws
import Derived.Laws.Bits64b

namespace Go.Proofs.YtdmoknnnlfkfoaaGreatDoor
open Go Go.RowKit
set_option linter.unusedVariables false
theorem Tryz.infoR : (Tryz.prog.info? 34).map (fun i => (i.zero, i.size, i.bytes)) = some (some (.agg #[.int .i64 0, .int .u64 0, .int .u64 0, .slice none 0 0]), 4, 48) := by kernel_rfl
theorem new_val (w : World) (E : TypeId) (u : V) : Rd (w.alloc (.cells #[.int .i64 u.kind, .int .u64 (u.a : Int), .int .u64 (u.b : Int), u.sl] E)) (w.heap.size + 1) 4 (some ⟨w.heap.size, 0, none⟩) 1 (vCells [u]) := by
  refine ⟨by rw [vCells_length]; rfl, fun _ => ⟨_, rfl, by simp, fun j x hx => ?_⟩⟩
  have hr := heap_alloc_new w (.cells #[.int .i64 u.kind, .int .u64 (u.a : Int), .int .u64 (u.b : Int), u.sl] E)
  have e : (⟨w.heap.size, 0, none⟩ : Addr).add j = ⟨w.heap.size, j, none⟩ := by unfold Addr.add; split <;> simp_all
  rw [e, cell_of_row _ _ j _ _ _ hr]
  have hv : vCells [u] = [.int .i64 u.kind, .int .u64 (u.a : Int), .int .u64 (u.b : Int), u.sl] := rfl
  rw [hv] at hx
  rw [← hx]
  simp
set_option maxRecDepth 100000 in
set_option maxHeartbeats 1600000 in
theorem dexpr_any : ∀ (v : V) (w : World) (lo hi : Nat), Lies w lo hi v → hi ≤ w.heap.size → v.abs.count ≤ 1000 → Calls Tryz.prog 30 #[v.val] w (MadeT 34 v.abs w) := by
  refine V.ind fun k a b A c ps ih w lo hi hL hhi hct => ?_
  obtain ⟨hlen, hcap', hk, ha, hb⟩ := hL.caps
  have hlc : ps.length ≤ 1000 := by
    rw [V.count_node] at hct
    have := length_le_countL (V.absL ps)
    rw [absL_length] at this
    omega
  have IH : Hid (∀ (i : Nat) (p : V), ps[i]? = some p → ∀ W, Below w.heap.size w W → Calls Tryz.prog 30 #[p.val] W (MadeT 34 p.abs W)) := fun i p hp W hW => ih p (List.mem_of_getElem? hp) W lo hi ((hL.part (List.mem_of_getElem? hp)).under (hW.mono hhi)) (Nat.le_trans hhi hW.size) (hL.small hct hp).1
  have HL : Hid (∀ W, Below w.heap.size w W → Lies W lo hi (.node k a b A c ps)) := fun W hW => hL.under (hW.mono hhi)
  have HK := Lib_hid (And.intro hk (And.intro ha hb))
  clear ih hL hct
  show Calls Tryz.prog 30 #[.agg #[.int .i64 k, .int .u64 (a : Int), .int .u64 (b : Int), .slice A ps.length c]] w _
  obtain ⟨i0, hi0, hz0, hz1, hz2⟩ := info_parts Tryz.infoR
  have r1 := heap_alloc_new w (.cells #[.int .i64 k, .int .u64 (a : Int), .int .u64 (b : Int), .slice A ps.length c] 44)
  have b1 := below_new w (.cells #[.int .i64 k, .int .u64 (a : Int), .int .u64 (b : Int), .slice A ps.length c] 44)
  obtain ⟨w1, hw1⟩ : ∃ w1, w1 = w.alloc (.cells #[.int .i64 k, .int .u64 (a : Int), .int .u64 (b : Int), .slice A ps.length c] 44) := ⟨_, rfl⟩
  have s1 : w1.heap.size = w.heap.size + 1 := by rw [hw1]; simp
  rw [← hw1] at r1 b1
  have r2 := heap_alloc_new w1 (.cells #[.int .i64 0, .int .u64 0, .int .u64 0, .slice none 0 0] 34)
  have b2 := below_new w1 (.cells #[.int .i64 0, .int .u64 0, .int .u64 0, .slice none 0 0] 34)
  obtain ⟨w2, hw2⟩ : ∃ w2, w2 = w1.alloc (.cells #[.int .i64 0, .int .u64 0, .int .u64 0, .slice none 0 0] 34) := ⟨_, rfl⟩
  have s2 : w2.heap.size = w.heap.size + 2 := by rw [hw2]; simp [s1]
  rw [← hw2, s1] at r2 b2
  have r3 := heap_alloc_new w2 (.cells #[.int .i64 k, .int .u64 (a : Int), .int .u64 (b : Int), .slice none 0 0] 34)
  have b3 := below_new w2 (.cells #[.int .i64 k, .int .u64 (a : Int), .int .u64 (b : Int), .slice none 0 0] 34)
  obtain ⟨w3, hw3⟩ : ∃ w3, w3 = w2.alloc (.cells #[.int .i64 k, .int .u64 (a : Int), .int .u64 (b : Int), .slice none 0 0] 34) := ⟨_, rfl⟩
  have s3 : w3.heap.size = w.heap.size + 3 := by rw [hw3]; simp [s2]
  rw [← hw3, s2] at r3 b3
  have r12 := (b2.block _ (by omega)).trans r1
  have r13 := (b3.block _ (by omega)).trans r12
  have r23 := (b3.block _ (by omega)).trans r2
  have hbw := (b1.trans (b2.mono (by omega))).trans (b3.mono (by omega))
  have HQ := Lib_hid (And.intro r13 (And.intro r23 (And.intro r3 (And.intro hbw s3))))
  have e0 := cell_of_row w2 _ 0 _ _ _ r12
  have e1 := cell_of_row w2 _ 1 _ _ _ r12
  have e2 := cell_of_row w2 _ 2 _ _ _ r12
  simp at e0 e1 e2
  subst hw3 hw2 hw1
  clear r1 r2 r3 r12 r13 r23 b1 b2 b3 hbw s3
  go_enter Tryz.func30, Tryz.ntmps30
  go_upto_region 2 with (fail)
  obtain ⟨hq1, hq2, hq3, hbw, hs4⟩ := HQ.out
  clear HQ e0 e1 e2 s1 s2
  generalize ((w.alloc _).alloc _).alloc (.cells #[.int .i64 k, .int .u64 (a : Int), .int .u64 (b : Int), .slice none 0 0] 34) = w4 at *
  have H0 : Hid (TRow 34 (w.heap.size + 3) (.slice none 0 0) [] w4) := TRow.nil _ _ _
  have HQ2 := Lib_hid hq2
  clear hq2
  go_wp2
  go_loopw [4] (fun z W => ∃ (i : Nat) (us : List V) (A' : Option Addr) (c' : Nat), z = .int .i64 i ∧ i ≤ ps.length ∧ Hid (us.length = i ∧ V.absL us = V.absL (ps.take i)) ∧ Hid (TRow 34 (w.heap.size + 3) (.slice A' i c') us W) ∧
      W.heap[w.heap.size]? = some (.cells #[.int .i64 k, .int .u64 (a : Int), .int .u64 (b : Int), .slice A ps.length c] 44 (0, 0)) ∧
      Hid (W.heap[w.heap.size + 1]? = some (.cells #[.int .i64 0, .int .u64 0, .int .u64 0, .slice none 0 0] 34 (0, 0))) ∧
      W.heap[w.heap.size + 2]? = some (.cells #[.int .i64 k, .int .u64 (a : Int), .int .u64 (b : Int), .slice A' i c'] 34 (0, 0)) ∧ w.heap.size + 3 ≤ W.heap.size ∧ Below w.heap.size w W) (fun z _ => ps.length - (intOf z).toNat)
  case atStart => exact ⟨0, [], none, 0, rfl, Nat.zero_le _, Lib_hid ⟨rfl, by simp [V.absL]⟩, H0, hq1, HQ2, hq3, by omega, hbw⟩
  case round =>
    clear hq1 HQ2 hq3 H0 hs4 hbw
    obtain ⟨i, us, A', c', rfl, hi1, hus, hrow, hq1, hq2, hq3, hsz, hbw⟩ := hrel
    rename World => W
    have c3 := cell_of_row W _ 3 _ _ _ hq1
    simp at c3
    by_cases hlt : i < ps.length
    · obtain ⟨bb, off, p, rfl, hbb, hlb, hp, hLp, d0, d1, d2, d3⟩ := (HL.out W hbw).nth hlt
      have g3 := cell_of_row W _ 3 _ _ _ hq3
      simp at g3
      have CH : Hid (∀ W' : World, Below W.heap.size W W' → Calls Tryz.prog 30 #[.agg #[.int .i64 p.kind, .int .u64 (p.a : Int), .int .u64 (p.b : Int), .slice p.addr p.parts.length p.cap]] W' fun e w' => ∃ u : V, e = .returned (.agg #[.int .i64 u.kind, .int .u64 (u.a : Int), .int .u64 (u.b : Int), .slice u.addr u.parts.length u.cap]) ∧ u.abs = p.abs ∧ Lies w' W'.heap.size w'.heap.size u ∧ Shp 34 w' W'.heap.size u ∧ Below W'.heap.size W' w') := fun W' hW' => (IH.out i p hp W' (hbw.trans (hW'.mono hbw.size))).mono fun e w' ⟨u, he, hr⟩ => ⟨u, he, hr⟩
      have S8 : Hid (∀ W' : World, (∀ g, g < w.heap.size + 1 → W'.heap[g]? = W.heap[g]?) → W'.cell? ⟨w.heap.size, 3, none⟩ = some (.slice (some ⟨bb, off, none⟩) ps.length c) ∧
          W'.cell? ⟨bb, off + i * 4, none⟩ = some (.int .i64 p.kind) ∧ W'.cell? ⟨bb, off + i * 4 + 1, none⟩ = some (.int .u64 (p.a : Int)) ∧ W'.cell? ⟨bb, off + i * 4 + 2, none⟩ = some (.int .u64 (p.b : Int)) ∧ W'.cell? ⟨bb, off + i * 4 + 3, none⟩ = some (.slice p.addr p.parts.length p.cap)) := by
        intro W' hk
        have key : ∀ g j, g < w.heap.size + 1 → W'.cell? ⟨g, j, none⟩ = W.cell? ⟨g, j, none⟩ := fun g j hg => World.cell?_of_block (a := ⟨g, j, none⟩) (hk g hg)
        exact ⟨(key _ _ (by omega)).trans c3, (key _ _ (by omega)).trans d0, (key _ _ (by omega)).trans d1, (key _ _ (by omega)).trans d2, (key _ _ (by omega)).trans d3⟩
      have HP := Lib_hid hp
      have hoi := hrow.out.own
      rw [hus.out.1] at hoi
      have hcp := own_cap hoi
      have hm1 : i + 1 ≤ maxLen := by unfold maxLen; omega
      have hm2 : (i + 1) * 48 ≤ 140737488355328 := by omega
      have HO : Hid (∀ w2 : World, Below W.heap.size W w2 → w2.ownsRow (w.heap.size + 3) 34 4 (.slice A' i c') i (vCells us)) := fun w2 h2 => by
        have := own_below hrow.out.own h2 (own_lt hrow.out.own)
        rwa [hus.out.1] at this
      have HE : Hid (∀ (w2 w3 w5 : World) (u : V) (v' : Value), Below W.heap.size W w2 → u.abs = p.abs → Lies w2 W.heap.size w2.heap.size u → Shp 34 w2 W.heap.size u → Below w2.heap.size w2 w3 → Stp w3 w5 (.slice A' i c') v' →
          w5.ownsRow (w.heap.size + 3) 34 4 v' (i + 1) (vCells us ++ vCells [u]) →
          ((us ++ [u]).length = i + 1 ∧ V.absL (us ++ [u]) = V.absL (ps.take (i + 1))) ∧ TRow 34 (w.heap.size + 3) v' (us ++ [u]) w5 ∧ (∀ g, g < w.heap.size + 3 → w5.heap[g]? = W.heap[g]?) ∧ w.heap.size + 3 ≤ w5.heap.size ∧ Below w.heap.size w w5) := by
        intro w2 w3 w5 u v' hb2 hua huL huS hb3 hst ho
        have hge := own_ge hrow.out.own
        have hs2 := hb2.size
        have hs3 := hb3.size
        refine ⟨⟨by simp [hus.out.1], ?_⟩, ?_, fun g hg => ?_, by have := hst.grow.size; omega, ?_⟩
        · rw [absL_take HP.out, absL_map, List.map_append, ← absL_map, hus.out.2, List.map_cons, List.map_nil, hua]
        · have := hrow.out.push (w2 := w2) (w3 := w3) (w4 := w5) (v' := v') (u := u) hsz hb2 huL huS hb3 hst (by rw [hus.out.1]; exact ho)
          exact this
        · exact (hst.grow.block g (by omega) (fun e => by have := hge g e.symm; omega)).trans ((hb3.block g (by omega)).trans (hb2.block g (by omega)))
        · exact ((hbw.trans (hb2.mono hbw.size)).trans (hb3.mono (by have := hbw.size; omega))).trans (hst.below (by have := hbw.size; omega) fun k hk => by have := hge k hk; omega)
      have HQ := Lib_hid (And.intro hq1 (And.intro hq2.out hq3))
      have HV : Hid (∀ (w2 : World) (u : V), Rd (w2.alloc (.cells #[.int .i64 u.kind, .int .u64 (u.a : Int), .int .u64 (u.b : Int), .slice u.addr u.parts.length u.cap] 34)) (w2.heap.size + 1) 4 (some ⟨w2.heap.size, 0, none⟩) 1 (vCells [u])) := fun w2 u => new_val w2 _ u
      clear hus hrow hoi hq1 hq2 hq3 d0 d1 d2 d3 hp hLp
      go_wp2
      clear c3
      obtain ⟨s0, s1', s2', s3', s4'⟩ := S8.out W.drew (fun _ _ => rfl)
      have g3' : W.drew.cell? ⟨w.heap.size + 2, 3, none⟩ = some (.slice A' i c') := g3
      have gl : w.heap.size + 2 < W.drew.heap.size := by show _ < W.heap.size; omega
      clear g3
      go_region_law
        ((first
          | ((refine step_app rfl (.tmp 20) (.tmp 27) 32 rfl (w.heap.size + 3) 34 i0 (.agg #[.int .i64 0, .int .u64 0, .int .u64 0, .slice none 0 0]) 4 48 Tryz.underlying32 hi0 hz0 hz1 hz2 rfl (by decide) (.slice A' i c') i (vCells us) rfl (own_below (HO.out w2 hb2) (below_new w2 _) (own_lt (HO.out w2 hb2))) (w2.heap.size + 1) (some ⟨w2.heap.size, 0, none⟩) 1 1 (vCells [u]) rfl (HV.out w2 u) (v_one _) hm1 hm2 (by have := hb2.size; simp; omega) ?_); intro v5 w5 ho5 hs5; have hx := HE.out w2 _ w5 u v5 hb2 hua huL huS (below_new w2 _) hs5 ho5; obtain ⟨A5, c5, rfl, _⟩ := own_form ho5; have hk5 := hx.2.2.1; have hq5 := (hk5 (w.heap.size + 2) (by omega)).trans HQ.out.2.2; have g5 := cell_of_row w5 _ 3 _ _ _ hq5; have z5 := frozen_of_row w5 _ 3 _ _ hq5; simp at g5)
          | (go_simp; refine (CH.out _ (by exact below_like4 (Below.refl _ _) rfl rfl rfl rfl)).mono ?_; rintro e w2 ⟨u, rfl, hua, huL, huS, hb2'⟩; dsimp only; have hb2 : Below W.heap.size W w2 := ⟨hb2'.os, hb2'.tape, hb2'.output, hb2'.size, hb2'.block⟩; have hk2 : ∀ g, g < w.heap.size + 3 → w2.heap[g]? = W.heap[g]? := (fun g hg => hb2.block g (by omega)); have g2 : w2.cell? ⟨w.heap.size + 2, 3, none⟩ = some (.slice A' i c') := (World.cell?_of_block (a := ⟨w.heap.size + 2, 3, none⟩) (hk2 (w.heap.size + 2) (by omega))).trans g3'; have gl2 : w.heap.size + 2 < w2.heap.size := (by have := hb2.size; omega); obtain ⟨t0, t1, t2, t3, t4⟩ := S8.out w2 (fun g hg => hk2 g (by omega)))))
      all_goals
        have hr6 := hx.2.1.keep (w' := w5.setCell ⟨w.heap.size + 2, 3, none⟩ (.slice A5 (i + 1) c5)) (by simp [World.setCell]) (fun g hg _ => Below.heap_setCell w5 ⟨w.heap.size + 2, 3, none⟩ _ g (by show g ≠ w.heap.size + 2; omega))
        have q61 := (Below.heap_setCell w5 ⟨w.heap.size + 2, 3, none⟩ (.slice A5 (i + 1) c5) w.heap.size (by show w.heap.size ≠ w.heap.size + 2; omega)).trans ((hk5 _ (by omega)).trans HQ.out.1)
        have q62 := (Below.heap_setCell w5 ⟨w.heap.size + 2, 3, none⟩ (.slice A5 (i + 1) c5) (w.heap.size + 1) (by show w.heap.size + 1 ≠ w.heap.size + 2; omega)).trans ((hk5 _ (by omega)).trans HQ.out.2.1)
        have q63 := Joins.block_setCell (i := 3) hq5 (.slice A5 (i + 1) c5)
        have b6 := hx.2.2.2.2.setCell (p := ⟨w.heap.size + 2, 3, none⟩) (by show w.heap.size ≤ w.heap.size + 2; omega) (.slice A5 (i + 1) c5)
        have s6 : w.heap.size + 3 ≤ (w5.setCell ⟨w.heap.size + 2, 3, none⟩ (.slice A5 (i + 1) c5)).heap.size := by have := hx.2.2.2.1; simpa [World.setCell] using this
        have HR6 := Lib_hid (And.intro hr6 (And.intro hx.1 (And.intro q61 (And.intro q62 (And.intro q63 (And.intro s6 b6))))))
        clear hr6 q61 q62 q63 b6 s6 hx hk5 hq5 g5 z5 ho5 hs5 hua huL huS hb2 hb2' hk2 g2 gl2 t0 t1 t2 t3 t4 s0 s1' s2' s3' s4' g3' gl CH HE HO HV S8
        generalize w5.setCell ⟨w.heap.size + 2, 3, none⟩ (.slice A5 (i + 1) c5) = w6 at *
        go_wp2
        go_roundw
        case rel => exact ⟨i + 1, us ++ [u], A5, c5, by go_num, by omega, HR6.out.2.1, HR6.out.1, HR6.out.2.2.1, HR6.out.2.2.2.1, HR6.out.2.2.2.2.1, HR6.out.2.2.2.2.2.1, HR6.out.2.2.2.2.2.2⟩
        case measure => simp [intOf]; omega
    · obtain rfl : i = ps.length := by omega
      obtain ⟨-, hLi, hSh⟩ := hrow.out.tree (k := k) (a := a) (b := b) HK.out.1 HK.out.2.1 HK.out.2.2
      have hul := hus.out.1
      have hcp : ps.length ≤ c' := by have := hrow.out.own; rw [hul] at this; exact (own_cap this).1
      have HF : Hid (MadeT 34 (V.node k a b A c ps).abs w (.returned (.agg #[.int .i64 k, .int .u64 (a : Int), .int .u64 (b : Int), .slice A' ps.length c'])) (put4 W (w.heap.size + 1) (.int .i64 k) (.int .u64 (a : Int)) (.int .u64 (b : Int)) (.slice A' ps.length c'))) := by
        refine ⟨.node k a b A' c' us, by rw [← hul]; rfl, ?_, ?_, ?_, put4_below hbw (by omega) _ _ _ _⟩
        · rw [V.abs, V.abs, hus.out.2, List.take_length]
        · rw [put4_size]
          exact (hLi.keep fun p h1 _ => World.cell?_of_block (put4_else W (by omega) _ _ _ _)).more (by omega) (Nat.le_refl _)
        · exact (Shp.keepL _ hLi hSh fun g h1 _ => put4_else W (by omega) _ _ _ _).more (by omega)
      have HR : Hid ((put4 W (w.heap.size + 1) (.int .i64 k) (.int .u64 (a : Int)) (.int .u64 (b : Int)) (.slice A' ps.length c')).heap[w.heap.size + 1]? = _) := put4_row hq2.out _ _ _ _
      have e0 := cell_of_row W _ 0 _ _ _ hq3
      have e1 := cell_of_row W _ 1 _ _ _ hq3
      have e2 := cell_of_row W _ 2 _ _ _ hq3
      have e3 := cell_of_row W _ 3 _ _ _ hq3
      have f0 := cell_of_row W _ 0 _ _ _ hq2.out
      have f1 := cell_of_row W _ 1 _ _ _ hq2.out
      have f2 := cell_of_row W _ 2 _ _ _ hq2.out
      have f3 := cell_of_row W _ 3 _ _ _ hq2.out
      have z0 := frozen_of_row W (w.heap.size + 1) 0 _ _ hq2.out
      have z1 := frozen_of_row W (w.heap.size + 1) 1 _ _ hq2.out
      have z2 := frozen_of_row W (w.heap.size + 1) 2 _ _ hq2.out
      have z3 := frozen_of_row W (w.heap.size + 1) 3 _ _ hq2.out
      simp at e0 e1 e2 e3 f0 f1 f2 f3
      clear hus hrow hLi hSh hul hq1 hq2 hq3 hbw IH HL
      go_wp2
      show bodyPost _ _ _ _ _ (put4 W (w.heap.size + 1) (.int .i64 k) (.int .u64 (a : Int)) (.int .u64 (b : Int)) (.slice A' ps.length c'))
      have HR2 := HR.out
      have HF2 := HF.out
      clear HR HF f0 f1 f2 f3 e0 e1 e2 e3 z0 z1 z2 z3
      generalize put4 W (w.heap.size + 1) (.int .i64 k) (.int .u64 (a : Int)) (.int .u64 (b : Int)) (.slice A' ps.length c') = W2 at *
      have d0 : W2.cell? ⟨w.heap.size + 1, 0, none⟩ = some (.int .i64 k) := cell_of_row W2 _ 0 _ _ _ HR2
      have d1 : W2.cell? ⟨w.heap.size + 1, 1, none⟩ = some (.int .u64 (a : Int)) := cell_of_row W2 _ 1 _ _ _ HR2
      have d2 : W2.cell? ⟨w.heap.size + 1, 2, none⟩ = some (.int .u64 (b : Int)) := cell_of_row W2 _ 2 _ _ _ HR2
      have d3 : W2.cell? ⟨w.heap.size + 1, 3, none⟩ = some (.slice A' ps.length c') := cell_of_row W2 _ 3 _ _ _ HR2
      exact bodyPost_ret (v := .agg #[.int .i64 k, .int .u64 (a : Int), .int .u64 (b : Int), .slice A' ps.length c']) (by simp [results, Tryz.results30, go_sem, d0, d1, d2, d3]) rfl HF2
end Go.Proofs.YtdmoknnnlfkfoaaGreatDoor

namespace Go.Proofs.YtdmoknnnlfkfoaaGreatDoor
open Go Go.RowKit
set_option linter.unusedVariables false
structure NdR (d m : Nat) (s : List UInt8) (bad : Bool) (w w' : World) (k : Int) (a b n c m' : Nat) (A : Option Addr) (s' : List UInt8) (bad' : Bool) : Prop where
  len : s'.length ≤ s.length
  bd : bad = true → bad' = true ∧ m' ≤ m + d + 1
  ok : bad = false → m' ≤ 34 + d ∧ ((∃ t us, rdS d s = some (t, s') ∧ m + t.count ≤ 32 ∧ bad' = false ∧ m' = m + t.count ∧ (V.node k a b A c us).abs = t ∧ us.length = n ∧ Lies w' w.heap.size w'.heap.size (.node k a b A c us) ∧ Shp 44 w' w.heap.size (.node k a b A c us)) ∨
    ((∀ t r, rdS d s = some (t, r) → 32 < m + t.count) ∧ bad' = true))
def NdEnd (d m : Nat) (s : List UInt8) (bad : Bool) (g : Nat) (w : World) (e : Ending) (w' : World) : Prop :=
  ∃ (k : Int) (a b n c m' : Nat) (A : Option Addr) (s' : List UInt8) (bad' : Bool), e = .returned (.agg #[.int .i64 k, .int .u64 (a : Int), .int .u64 (b : Int), .slice A n c]) ∧ w.grownBy w' (some g) ∧ w'.heap[g]? = some (RdrC (m' : Int) s' bad') ∧ NdR d m s bad w w' k a b n c m' A s' bad'
def NodeOK (d : Nat) : Prop := ∀ (m : Nat) (s : List UInt8) (bad : Bool) (B g : Nat) (w : World), w.heap[g]? = some (RdrC (m : Int) s bad) → Env B w → B ≤ g → s.length ≤ 1000000 → (bad = false → m ≤ 32) → m ≤ 100 →
  Calls Tryz.prog 203 #[.pointer (some ⟨g, 0, none⟩), .int .i64 ((9 - d : Nat) : Int)] w (NdEnd d m s bad g w)
structure LsR (d m : Nat) (s : List UInt8) (bad : Bool) (w w' : World) (v : Value) (m' : Nat) (s' : List UInt8) (bad' : Bool) : Prop where
  len : s'.length ≤ s.length
  bd : bad = true → bad' = true ∧ m' ≤ m + d + 1
  ok : bad = false → m' ≤ 34 + d ∧ ((∃ us, listS (rdS d) s = some (V.absL us, s') ∧ m + T.countL (V.absL us) ≤ 32 ∧ bad' = false ∧ m' = m + T.countL (V.absL us) ∧ TRow 44 w.heap.size v us w') ∨
    ((∀ ts r, listS (rdS d) s = some (ts, r) → 32 < m + T.countL ts) ∧ bad' = true))
def LsEnd (d m : Nat) (s : List UInt8) (bad : Bool) (g : Nat) (w : World) (e : Ending) (w' : World) : Prop :=
  ∃ (n c m' : Nat) (A : Option Addr) (s' : List UInt8) (bad' : Bool), e = .returned (.slice A n c) ∧ w.grownBy w' (some g) ∧ w'.heap[g]? = some (RdrC (m' : Int) s' bad') ∧ LsR d m s bad w w' (.slice A n c) m' s' bad'
structure LsI (d m : Nat) (s : List UInt8) (bad : Bool) (w W : World) (v : Value) (mm : Nat) (ss : List UInt8) (bb : Bool) : Prop where
  len : ss.length ≤ s.length
  bd : bad = true → bb = true ∧ mm ≤ m + d + 1
  ok : bad = false → mm ≤ 34 + d ∧ ((∃ us, TRow 44 w.heap.size v us W ∧ bb = false ∧ mm = m + T.countL (V.absL us) ∧ mm ≤ 32 ∧ listS (rdS d) s = (moreS (rdS d) (ss.length + 1) ss).map fun x => (V.absL us ++ x.1, x.2)) ∨
    ((∀ ts r, listS (rdS d) s = some (ts, r) → 32 < m + T.countL ts) ∧ bb = true))
theorem new_raw (w : World) (E : TypeId) (x0 x1 x2 x3 : Value) : Rd (w.alloc (.cells #[x0, x1, x2, x3] E)) (w.heap.size + 1) 4 (some ⟨w.heap.size, 0, none⟩) 1 [x0, x1, x2, x3] := by
  refine ⟨rfl, fun _ => ⟨_, rfl, by simp, fun j x hx => ?_⟩⟩
  have hr := heap_alloc_new w (.cells #[x0, x1, x2, x3] E)
  have e : (⟨w.heap.size, 0, none⟩ : Addr).add j = ⟨w.heap.size, j, none⟩ := by unfold Addr.add; split <;> simp_all
  rw [e, cell_of_row _ _ j _ _ _ hr, ← hx]
  simp
section
variable {d m : Nat} {s : List UInt8} {bad : Bool}
theorem LsI.start {w w1 w2 : World} {k : Int} {a b n c m' g : Nat} {A : Option Addr} {s' : List UInt8} {bad' : Bool} (hm : bad = false → m ≤ 32) (hw1 : w.heap.size ≤ w1.heap.size) (hgr : w1.grownBy w2 (some g))
    (h41 : Lib.hasPrefix (Lib.trimPrefix s [40]) [41] = false) (h : NdR d m (Lib.trimPrefix s [40]) (bad || !Lib.hasPrefix s [40]) w1 w2 k a b n c m' A s' bad') :
    LsI d m s bad w (w2.alloc (.cells #[.int .i64 k, .int .u64 (a : Int), .int .u64 (b : Int), .slice A n c] 44)) (.slice (some ⟨w2.heap.size, 0, none⟩) 1 1) m' s' bad' := by
  refine ⟨Nat.le_trans h.len (trim_le _ _), fun hb => h.bd (by rw [hb]; rfl), fun hb => ?_⟩
  have hm := hm hb
  cases h40 : Lib.hasPrefix s [40] with
  | false =>
    obtain ⟨h1, h2⟩ := h.bd (by rw [hb, h40]; rfl)
    refine ⟨by omega, .inr ⟨fun ts r hl => ?_, h1⟩⟩
    unfold listS at hl
    rw [h40] at hl
    cases hl
  | true =>
    obtain ⟨h1, h2⟩ := h.ok (by rw [hb, h40]; rfl)
    have hu : listS (rdS d) s = (rdS d (Lib.trimPrefix s [40])).bind fun (t, r') => (moreS (rdS d) (r'.length + 1) r').map fun (ts, r2) => (t :: ts, r2) := by
      unfold listS
      rw [if_pos h40, if_neg (by rw [h41]; simp)]
    refine ⟨h1, ?_⟩
    rcases h2 with ⟨t, us, e1, e2, e3, e4, e5, e6, hL, hS⟩ | ⟨hno, hbad⟩
    · subst e6
      refine .inl ⟨[.node k a b A c us], ⟨?_, ?_⟩, e3, ?_, by omega, ?_⟩
      · have := World.ownsRow_lit (base := w.heap.size) (e := 44) (size := 4) w2 #[.int .i64 k, .int .u64 (a : Int), .int .u64 (b : Int), .slice A us.length c] 1 (by have := hgr.size; omega) (by decide) rfl
        exact this
      · intro u hu
        obtain rfl : u = .node k a b A c us := by simpa using hu
        have hb2 := below_new w2 (.cells #[.int .i64 k, .int .u64 (a : Int), .int .u64 (b : Int), .slice A us.length c] 44)
        exact ⟨w1.heap.size, w2.heap.size, hw1, hb2.size, hL.under (hb2.mono (Nat.le_refl _)), hS.under hb2, fun g' hg' => .inr (by have e : w2.heap.size = g' := Option.some.inj hg'; omega)⟩
      · rw [e4, ← e5]; simp [V.absL, T.countL]
      · rw [hu, e1]
        simp only [Option.bind_some]
        congr 1
        funext x
        simp [V.absL, e5]
    · refine .inr ⟨fun ts r hl => ?_, hbad⟩
      rw [hu] at hl
      obtain ⟨⟨t, r'⟩, h3, h4⟩ := Option.bind_eq_some_iff.1 hl
      obtain ⟨⟨ts', r2⟩, h5, he⟩ := Option.map_eq_some_iff.1 h4
      injection he with e1 e2
      subst e1
      have := hno _ _ h3
      rw [T.countL]
      omega
theorem LsI.step {w W W1 w2 w4 : World} {v v' : Value} {mm : Nat} {ss : List UInt8} {k : Int} {a b n c m' g : Nat} {A : Option Addr} {s' : List UInt8} {bad' : Bool} (h : LsI d m s bad w W v mm ss false)
    (hww : w.heap.size ≤ W.heap.size) (hg : g < w.heap.size) (hgr1 : W.grownBy W1 (some g)) (hgr2 : W1.grownBy w2 (some g)) (h44 : Lib.hasPrefix ss [44] = true) (hn : NdR d mm (Lib.trimPrefix ss [44]) false W1 w2 k a b n c m' A s' bad')
    (hst : Stp (w2.alloc (.cells #[.int .i64 k, .int .u64 (a : Int), .int .u64 (b : Int), .slice A n c] 44)) w4 v v')
    (ho : ∀ us, TRow 44 w.heap.size v us W → w4.ownsRow w.heap.size 44 4 v' (us.length + 1) (vCells us ++ [.int .i64 k, .int .u64 (a : Int), .int .u64 (b : Int), .slice A n c])) :
    LsI d m s bad w w4 v' m' s' bad' := by
  have hbf : bad = false := by
    cases hb : bad with
    | false => rfl
    | true => have := (h.bd hb).1; cases this
  refine ⟨Nat.le_trans (Nat.le_trans hn.len (trim_le _ _)) h.len, (fun hb => by rw [hbf] at hb; cases hb), fun hb => ?_⟩
  obtain ⟨h1, h2⟩ := h.ok hb
  obtain ⟨n1, n2⟩ := hn.ok rfl
  refine ⟨n1, ?_⟩
  rcases h2 with ⟨us, hT, -, hmm, h32, hspec⟩ | ⟨-, hx⟩
  · have hu : moreS (rdS d) (ss.length + 1) ss = (rdS d (Lib.trimPrefix ss [44])).bind fun (t, r') => (moreS (rdS d) ss.length r').map fun (ts, r2) => (t :: ts, r2) := by
      conv => lhs; unfold moreS
      rw [if_pos h44]
    have hlt := trim_lt h44
    rcases n2 with ⟨t, us2, e1, e2, e3, e4, e5, e6, hL, hS⟩ | ⟨hno, hbad⟩
    · subst e6
      have hT1 : TRow 44 w.heap.size v us W1 := hT.keep hgr1.size fun k hk1 hk2 => hgr1.block k hk2 (fun e => by injection e with e; omega)
      refine .inl ⟨us ++ [.node k a b A c us2], ?_, e3, ?_, by omega, ?_⟩
      · have hk2 : ∀ k, w.heap.size ≤ k → k < W1.heap.size → w2.heap[k]? = W1.heap[k]? := fun k hk1 hk2 => hgr2.block k hk2 (fun e => by injection e with e; omega)
        have hs2 := hgr2.size
        have hs1 := hgr1.size
        have hT2 : TRow 44 w.heap.size v us w2 := hT1.keep hs2 hk2
        have hb3 := below_new w2 (.cells #[.int .i64 k, .int .u64 (a : Int), .int .u64 (b : Int), .slice A us2.length c] 44)
        have hlt1 := own_lt hT1.own
        have hs4 := hst.grow.size
        have hrow : ∀ lo hi, (∀ g, v.ownBlock = some g → g < lo ∨ hi ≤ g) → hi ≤ w2.heap.size → ∀ g, v'.ownBlock = some g → g < lo ∨ hi ≤ g := by
          intro lo hi hv hh g' hg'
          rcases hst.row with e | ⟨q, e, hq⟩
          · exact hv g' (e ▸ hg')
          · rw [e] at hg'; injection hg' with hg'; have := hb3.size; omega
        have hkeep : ∀ lo hi, (∀ g, v.ownBlock = some g → g < lo ∨ hi ≤ g) → hi ≤ w2.heap.size → ∀ g, lo ≤ g → g < hi → w4.heap[g]? = w2.heap[g]? := by
          intro lo hi hv hh g' q1 q2
          refine (hst.grow.block g' (by have := hb3.size; omega) fun e => ?_).trans (hb3.block g' (by omega))
          rcases hv g' e.symm with h | h <;> omega
        refine ⟨by rw [List.length_append, vCells_append]; exact ho us hT, fun x hx => ?_⟩
        rcases List.mem_append.1 hx with hx | hx
        · obtain ⟨lo, hi, q1, q2, q3, q4, q5⟩ := hT2.el x hx
          have hk := hkeep lo hi q5 q2
          exact ⟨lo, hi, q1, by have := hb3.size; omega, q3.keep fun p hp hp2 => World.cell?_of_block (hk _ hp hp2), Shp.keepL x q3 q4 hk, hrow lo hi q5 q2⟩
        · obtain rfl : x = .node k a b A c us2 := by simpa using hx
          have hv : ∀ g, v.ownBlock = some g → g < W1.heap.size ∨ w2.heap.size ≤ g := fun g hg => .inl (hlt1 g hg)
          have hk := hkeep _ _ hv (Nat.le_refl _)
          exact ⟨W1.heap.size, w2.heap.size, by omega, by have := hb3.size; omega, hL.keep fun p hp hp2 => World.cell?_of_block (hk _ hp hp2), Shp.keepL _ hL hS hk, hrow _ _ hv (Nat.le_refl _)⟩
      · rw [e4, hmm, show V.absL (us ++ [.node k a b A c us2]) = V.absL us ++ [t] by rw [absL_map, List.map_append, ← absL_map, List.map_cons, List.map_nil, e5], countL_append]
        simp [T.countL]
        omega
      · rw [hspec, hu, e1]
        simp only [Option.bind_some]
        have hl := rdS_len d _ _ _ e1
        rw [moreS_fuel (rdS_len d) ss.length (s'.length + 1) s' (by omega) (Nat.le_refl _)]
        cases moreS (rdS d) (s'.length + 1) s' with
        | none => rfl
        | some x => simp [absL_map, e5]
    · refine .inr ⟨fun ts r hl => ?_, hbad⟩
      rw [hspec, hu] at hl
      obtain ⟨⟨ts1, r1⟩, hl, he⟩ := Option.map_eq_some_iff.1 hl
      obtain ⟨⟨t, r'⟩, h3, h4⟩ := Option.bind_eq_some_iff.1 hl
      obtain ⟨⟨ts', r2⟩, h5, he2⟩ := Option.map_eq_some_iff.1 h4
      injection he with e1 e2
      injection he2 with e3 e4
      subst e1 e3
      have := hno _ _ h3
      simp only [countL_append, T.countL]
      omega
  · cases hx
theorem LsI.done {w W w' : World} {v : Value} {mm g : Nat} {ss : List UInt8} {bb : Bool} (h : LsI d m s bad w W v mm ss bb) (hg : g < w.heap.size) (hgr : W.grownBy w' (some g)) (hww : w.heap.size ≤ W.heap.size) (h44 : bb = false → Lib.hasPrefix ss [44] = false) :
    LsR d m s bad w w' v mm (Lib.trimPrefix ss [41]) (bb || !Lib.hasPrefix ss [41]) := by
  refine ⟨Nat.le_trans (trim_le _ _) h.len, fun hb => ⟨by rw [(h.bd hb).1]; rfl, (h.bd hb).2⟩, fun hb => ?_⟩
  obtain ⟨h1, h2⟩ := h.ok hb
  refine ⟨h1, ?_⟩
  rcases h2 with ⟨us, hT, rfl, hmm, h32, hspec⟩ | ⟨hno, rfl⟩
  · have hu : moreS (rdS d) (ss.length + 1) ss = if Lib.hasPrefix ss [41] then some ([], Lib.trimPrefix ss [41]) else none := by
      conv => lhs; unfold moreS
      rw [if_neg (by rw [h44 rfl]; simp)]
    rw [hu] at hspec
    cases h41 : Lib.hasPrefix ss [41] with
    | true =>
      rw [h41, if_pos rfl] at hspec
      exact .inl ⟨us, by rw [hspec]; simp, by omega, rfl, hmm, hT.keep hgr.size fun k hk1 hk2 => hgr.block k hk2 (fun e => by injection e with e; omega)⟩
    | false =>
      rw [h41, if_neg (by simp)] at hspec
      exact .inr ⟨(fun ts r hl => by rw [hspec] at hl; cases hl), rfl⟩
  · exact .inr ⟨hno, rfl⟩
theorem LsR.empty {w w' : World} (hm : bad = false → m ≤ 32) (h41 : Lib.hasPrefix (Lib.trimPrefix s [40]) [41] = true) :
    LsR d m s bad w w' (.slice none 0 0) m (Lib.trimPrefix (Lib.trimPrefix s [40]) [41]) (bad || !Lib.hasPrefix s [40]) := by
  refine ⟨Nat.le_trans (trim_le _ _) (trim_le _ _), fun hb => ⟨by rw [hb]; rfl, by omega⟩, fun hb => ?_⟩
  have hm := hm hb
  refine ⟨by omega, ?_⟩
  cases h40 : Lib.hasPrefix s [40] with
  | true => exact .inl ⟨[], by unfold listS; rw [if_pos h40, if_pos h41]; rfl, by simp [V.absL, T.countL]; omega, by rw [hb]; rfl, by simp [V.absL, T.countL], TRow.nil _ _ _⟩
  | false => exact .inr ⟨(fun ts r hl => by unfold listS at hl; rw [h40] at hl; cases hl), by simp⟩
end
end Go.Proofs.YtdmoknnnlfkfoaaGreatDoor

namespace Go.Proofs.YtdmoknnnlfkfoaaGreatDoor
open Go Go.RowKit
set_option linter.unusedVariables false
def tup (x : Nat × Nat × Nat) : Value := .tuple #[.int .u64 (x.1 : Int), .int .i64 (x.2.1 : Int), .int .i64 (x.2.2 : Int)]
def orS (z x k : Nat) : Nat := z ||| (x % 128 * 2 ^ (7 * k)) % 18446744073709551616
set_option maxRecDepth 100000 in
theorem or_any (z x k : Nat) (hz : z < 18446744073709551616) : bits .or .u64 (z : Int) (IntKind.u64.wrap ((x : Int) % 128 * 2 ^ (7 * k))) = ((orS z x k : Nat) : Int) := by
  have e : IntKind.u64.wrap ((x : Int) % 128 * 2 ^ (7 * k)) = (((x % 128 * 2 ^ (7 * k)) % 18446744073709551616 : Nat) : Int) := by
    have h1 : ((x : Int) % 128 * 2 ^ (7 * k)) = ((x % 128 * 2 ^ (7 * k) : Nat) : Int) := by rw [Int.natCast_mul, Int.natCast_pow]; rfl
    rw [IntKind.wrap_u64, h1]
    generalize x % 128 * 2 ^ (7 * k) = y
    omega
  rw [e, bits_or_u64_nat z _ hz (Nat.mod_lt _ (by decide))]
  rfl
theorem pow128 (k : Nat) : 2 ^ (7 * k) = 128 ^ k := by rw [Nat.pow_mul]
theorem orS_fit {z x k : Nat} (hz : z < 128 ^ k) (hx : x % 128 * 128 ^ k < 18446744073709551616) : orS z x k = z + x % 128 * 128 ^ k := by
  unfold orS
  rw [pow128, Nat.mod_eq_of_lt hx, Nat.or_comm, nat_join (7 * k) _ z (by rw [pow128]; exact Nat.mul_mod_left _ _) (by rw [pow128]; exact hz), Nat.add_comm]
theorem pow_le9 {k : Nat} (h : k ≤ 9) : 128 ^ k ≤ 9223372036854775808 := Nat.le_trans (Nat.pow_le_pow_right (by decide) h) (by decide)
theorem pow_le8 {k : Nat} (h : k ≤ 8) : 128 ^ k ≤ 72057594037927936 := Nat.le_trans (Nat.pow_le_pow_right (by decide) h) (by decide)
theorem orS_step {z x k : Nat} (hz : z < 128 ^ k) (hk : k < 9) : orS z x k = z + x % 128 * 128 ^ k ∧ orS z x k < 128 ^ (k + 1) := by
  have h8 := pow_le8 (k := k) (by omega)
  have hx : x % 128 ≤ 127 := by omega
  have hm := Nat.mul_le_mul_right (128 ^ k) hx
  have e := orS_fit (x := x) hz (by omega)
  refine ⟨e, ?_⟩
  rw [e, Nat.pow_succ]
  omega
theorem orS_last {z x k : Nat} (hz : z < 128 ^ k) (hk : k ≤ 9) (hx : x < 128) (he : mayEnd x k = true) : orS z x k = z + x * 128 ^ k := by
  have e : x % 128 = x := Nat.mod_eq_of_lt hx
  have h9 := pow_le9 hk
  by_cases hk9 : k = 9
  · subst hk9
    have hx1 : x = 1 := by simpa [mayEnd] using he
    subst hx1
    exact orS_fit hz (by decide)
  · rw [(orS_step (x := x) hz (by omega)).1, e]
set_option maxRecDepth 100000 in
theorem get_out (A : Option Addr) (n c : Nat) (a : Int) (w : World) (h : a < 0 ∨ (n : Int) < a) :
    Calls Tryz.prog 173 #[.slice A n c, .int .i64 a] w fun e w' => e = .returned (tup (0, 0, 2)) ∧ w = w' := by
  by_cases h0 : a < 0
  · go_enter Tryz.func173, Tryz.ntmps173
    go_wp2
    go_ret3
    exact ⟨rfl, rfl⟩
  · have h1 : (n : Int) < a := by omega
    go_enter Tryz.func173, Tryz.ntmps173
    go_wp2
    go_ret3
    exact ⟨rfl, rfl⟩
set_option maxRecDepth 100000 in
theorem get_in (B : Nat) (A : Option Addr) (n c : Nat) (l : List Nat) (a : Nat) (w : World) (h : Rd w B 1 A n (bs l)) (hb : ∀ x ∈ l, x < 256) (hn : n ≤ c) (hc : c ≤ 9223372036854775807) (ha : a ≤ n) :
    Calls Tryz.prog 173 #[.slice A n c, .int .i64 (a : Int)] w fun e w' => e = .returned (tup (getS l a)) ∧ w = w' := by
  have hcut := h.cut ha hn
  simp only [Nat.mul_one] at hcut
  obtain ⟨A2, hA2⟩ : ∃ A2, A2 = (if c = a then A else A.map (·.add a)) := ⟨_, rfl⟩
  rw [← hA2] at hcut
  obtain ⟨m, hm⟩ : ∃ m, m = n - a := ⟨_, rfl⟩
  rw [← hm] at hcut
  have hsl : ∀ wx, (Instr.slice 22 (.slice A n c) (some (.int .i64 (a : Int))) none none).run Tryz.prog wx = .ok (.slice A2 m (c - a)) wx := by
    intro wx
    rw [hA2, hm]
    have hu := Tryz.underlying22
    have he : Tryz.prog.elem 22 = 5 := by kernel_rfl
    rw [run_slice_l wx 22 A n c (by rw [he]; exact hu) .i64 a (by omega) (by omega)]
    rw [he]
    have hs5 : ((sizeOf 5).run Tryz.prog wx) = .ok 1 wx := by
      obtain ⟨i0, hi, hz0, hz1, hz2⟩ := info_parts Tryz.info5
      simp [sizeOf, typeInfo, hi, hz1]
    rw [hs5]
    simp [sliced, Result.andThen]
  have hl := h.count
  obtain ⟨r, hr⟩ : ∃ r, r = l.drop a := ⟨_, rfl⟩
  have hcut' : Rd w B 1 A2 m (bs r) := by rw [hr]; unfold bs at *; rw [List.map_drop]; exact hcut
  have hbr : ∀ k, r.getD k 0 < 256 := by
    intro k
    rw [List.getD_eq_getElem?_getD]
    cases hk : r[k]? with
    | none => simp
    | some x => simp only [Option.getD_some]; exact hb x (by have := List.mem_of_getElem? hk; rw [hr] at this; exact List.mem_of_mem_drop this)
  have hrl : r.length = m := by rw [hr, List.length_drop, hl, hm]
  have HR : Hid (getS l a = ans a (got r)) := by
    unfold Hid getS
    rw [if_neg (by omega), Int.toNat_natCast, hr]
  have HL : Hid (r.length = m) := hrl
  have hmc : m ≤ 9223372036854775807 := by omega
  have ham : a + m ≤ 9223372036854775807 := by omega
  have HB := Lib_hid hbr
  clear hA2 hm hl hr hcut hrl hbr hb h
  rcases Nat.lt_or_ge 10 m with hm10 | hm10
  all_goals
    go_enter Tryz.func173, Tryz.ntmps173
    go_wp2
    go_loop [4, 24] (fun x i => ∃ k z : Nat, x = .int .u64 z ∧ i = .int .i64 k ∧ k ≤ m ∧ k ≤ 10 ∧ (k < 10 → z < 128 ^ k) ∧ ScanAt r k z) (fun _ i => 10 - (intOf i).toNat)
    case atStart => exact ⟨0, 0, rfl, rfl, by omega, by omega, by omega, ScanAt.zero r⟩
    case round =>
      obtain ⟨k, z, rfl, rfl, hkm, hk10, hz, hS⟩ := hrel
      by_cases hlt : k < m ∧ k < 10
      · obtain ⟨hlm, hl10⟩ := hlt
        obtain ⟨ad, rfl, _, hcell⟩ := hcut'.byte hlm
        have hz' := Lib_hid (hz hl10)
        have hx := HB.out k
        obtain ⟨x, hX⟩ : ∃ x, x = r.getD k 0 := ⟨_, rfl⟩
        rw [← hX] at hcell hx
        have HX := Lib_hid hX
        clear hX hz
        have hz64 : z < 18446744073709551616 := Nat.lt_of_lt_of_le hz'.out (Nat.le_trans (pow_le9 (by omega)) (by decide))
        have hor := or_any z x k hz64
        obtain ⟨Z, hZ⟩ : ∃ Z, Z = orS z x k := ⟨_, rfl⟩
        rw [← hZ] at hor
        have HZ := Lib_hid hZ
        clear hZ hz64
        by_cases hc : x < 128
        · have E := ends_any x k w (by omega) (by omega)
          cases hme : mayEnd x k with
          | true =>
            rw [hme] at E
            have hfin : got r = .num Z (k + 1) := by
              have := hS.last hl10 (by rw [HL.out]; exact hlm) (by rw [← HX.out]; exact hc)
              rw [← HX.out, hme, if_pos rfl, ← orS_last hz'.out (by omega) hc hme, ← HZ.out] at this
              exact this
            have HF : Hid (getS l a = (Z, a + (k + 1), 0)) := by unfold Hid; rw [HR.out, hfin]; rfl
            clear hfin hme hS
            go_wp2_with (go_at_call 195; refine E.mono ?_; rintro e w' ⟨rfl, rfl⟩)
            go_ret3
            rw [HF.out]
            exact ⟨by unfold tup; simp [go_sem]; omega, rfl⟩
          | false =>
            rw [hme] at E
            have hfin : got r = .err 10 := by
              have := hS.last hl10 (by rw [HL.out]; exact hlm) (by rw [← HX.out]; exact hc)
              rw [← HX.out, hme] at this
              exact this
            have HF : Hid (getS l a = (0, 0, 10)) := by unfold Hid; rw [HR.out, hfin]; rfl
            clear hfin hme hS
            go_wp2_with (go_at_call 195; refine E.mono ?_; rintro e w' ⟨rfl, rfl⟩)
            go_ret3
            rw [HF.out]
            exact ⟨rfl, rfl⟩
        · have hS' := hS.more (v' := Z) hl10 (by rw [HL.out]; exact hlm) (by rw [← HX.out]; omega) (fun hk9 => by rw [HZ.out, ← HX.out]; exact (orS_step hz'.out hk9).1)
          have hZ' : Hid (k + 1 < 10 → Z < 128 ^ (k + 1)) := fun hk9 => by rw [HZ.out]; exact (orS_step hz'.out (by omega)).2
          clear hS
          go_wp2
          go_round
          case rel => exact ⟨k + 1, Z, rfl, by go_num, by omega, by omega, hZ'.out, hS'⟩
          case measure => simp [intOf]; omega
      · have hkk : k = min r.length 10 := by rw [HL.out]; omega
        have hfin := hS.end_ hk10 hkk
        rw [HL.out] at hfin
        have HF := Lib_hid hfin
        clear hkk hfin hS hz
        by_cases h10 : 10 ≤ m
        · have HG : Hid (getS l a = (0, 0, 10)) := by unfold Hid; rw [HR.out, HF.out, if_pos h10]; rfl
          obtain rfl : k = 10 := by omega
          go_wp2
          go_ret3
          rw [HG.out]
          exact ⟨rfl, rfl⟩
        · have HG : Hid (getS l a = (0, 0, 4)) := by unfold Hid; rw [HR.out, HF.out, if_neg h10]; rfl
          first
          | (exfalso; omega)
          | (obtain rfl : k = m := by omega
             go_wp2
             go_ret3
             rw [HG.out]
             exact ⟨rfl, rfl⟩)
theorem get_any (B : Nat) (A : Option Addr) (n c : Nat) (l : List Nat) (a : Int) (w : World) (h : Rd w B 1 A n (bs l)) (hb : ∀ x ∈ l, x < 256) (hn : n ≤ c) (hc : c ≤ 9223372036854775807) :
    Calls Tryz.prog 173 #[.slice A n c, .int .i64 a] w fun e w' => e = .returned (tup (getS l a)) ∧ w = w' := by
  have hl := h.count
  by_cases ho : a < 0 ∨ (n : Int) < a
  · have e : getS l a = (0, 0, 2) := by unfold getS; rw [hl, if_pos ho]
    rw [e]
    exact get_out A n c a w ho
  · obtain ⟨k, rfl⟩ : ∃ k : Nat, a = k := ⟨a.toNat, by omega⟩
    exact get_in B A n c l k w h hb hn hc (by omega)
end Go.Proofs.YtdmoknnnlfkfoaaGreatDoor
