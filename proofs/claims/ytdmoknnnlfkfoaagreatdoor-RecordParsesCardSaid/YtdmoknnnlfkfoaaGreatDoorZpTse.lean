/-
  Layer 4: Right, the program's.
  Layer 4: Same, the document's.
  Layer 4: Same, the program's, with slices.EqualFunc.
-/
import Derived.Test.YtdmoknnnlfkfoaaGreatDoorZpTcf
import Derived.Deep.QuietTactic
import Derived.BigQuiet
import Derived.Deep.RegionHeld3

namespace Go.Proofs.YtdmoknnnlfkfoaaGreatDoor
open Go Go.RowKit
set_option linter.unusedVariables false
theorem grow_set (w : World) (g i : Nat) (v : Value) : w.grownBy (w.setCell ⟨g, i, none⟩ v) (some g) :=
  ⟨rfl, rfl, rfl, by simp [World.setCell], fun k hk hne => Below.heap_setCell w ⟨g, i, none⟩ v k (fun e => hne (by rw [e]))⟩
theorem grow_below {w w' : World} (hb : Below w.heap.size w w') (row : Option Nat) : w.grownBy w' row := ⟨hb.os, hb.tape, hb.output, hb.size, fun i hi _ => hb.block i hi⟩
theorem grow_refl (w : World) (row : Option Nat) : w.grownBy w row := ⟨rfl, rfl, rfl, Nat.le_refl _, fun _ _ _ => rfl⟩
def rrB (t : T) (deep nodes : Nat) : Bool := t.allB && decide (deep + t.depth ≤ 9) && decide (nodes + t.count ≤ 32)
set_option maxRecDepth 100000 in
theorem enter_any (g off n : Nat) (deep : Nat) (w : World) (hc : w.cell? ⟨g, off, none⟩ = some (.int .i64 (n : Int))) (hf : w.frozen? ⟨g, off, none⟩ = false) (hn : n ≤ 1000) (hd : deep ≤ 1000) :
    Calls Tryz.prog 161 #[.pointer (some ⟨g, off, none⟩), .int .i64 (deep : Int)] w fun e w' => e = .returned (.bool (decide (deep ≤ 8 ∧ n + 1 ≤ 32))) ∧ w.setCell ⟨g, off, none⟩ (.int .i64 ((n + 1 : Nat) : Int)) = w' := by
  by_cases h8 : deep ≤ 8
  · have q8 : decide ((deep : Int) ≤ 8) = true := by simp; omega
    by_cases h32 : n + 1 ≤ 32
    · have q32 : decide ((n : Int) + 1 ≤ 32) = true := by simp; omega
      have HF : Hid (decide (deep ≤ 8 ∧ n + 1 ≤ 32) = true) := by unfold Hid; simp; omega
      have HV : Hid (((n + 1 : Nat) : Int) = (n : Int) + 1) := by unfold Hid; omega
      clear h8 h32
      go_enter Tryz.func161, Tryz.ntmps161
      go_wp2
      go_ret
      exact ⟨ret_b HF.out.symm, by rw [HV.out]⟩
    · have q32 : decide ((n : Int) + 1 ≤ 32) = false := by simp; omega
      have HF : Hid (decide (deep ≤ 8 ∧ n + 1 ≤ 32) = false) := by unfold Hid; simp; omega
      have HV : Hid (((n + 1 : Nat) : Int) = (n : Int) + 1) := by unfold Hid; omega
      clear h8 h32
      go_enter Tryz.func161, Tryz.ntmps161
      go_wp2
      go_ret
      exact ⟨ret_b HF.out.symm, by rw [HV.out]⟩
  · have q8 : decide ((deep : Int) ≤ 8) = false := by simp; omega
    have HF : Hid (decide (deep ≤ 8 ∧ n + 1 ≤ 32) = false) := by unfold Hid; simp; omega
    have HV : Hid (((n + 1 : Nat) : Int) = (n : Int) + 1) := by unfold Hid; omega
    clear h8
    go_enter Tryz.func161, Tryz.ntmps161
    go_wp2
    go_ret
    exact ⟨ret_b HF.out.symm, by rw [HV.out]⟩
theorem depthL_le {ps : List V} {i : Nat} {p : V} (h : ps[i]? = some p) : p.abs.depth ≤ T.depthL (V.absL ps) := by
  have h2 := List.take_append_drop (i + 1) ps
  have : T.depthL (V.absL ps) = max (T.depthL (V.absL (ps.take (i + 1)))) (T.depthL (V.absL (ps.drop (i + 1)))) := by
    conv => lhs; rw [← h2]
    rw [absL_map, List.map_append, depthL_append, ← absL_map, ← absL_map]
  rw [depthL_take h] at this
  omega
def RrEnd (t : T) (deep nodes g : Nat) (w : World) (e : Ending) (w' : World) : Prop :=
  ∃ m : Nat, w'.heap[g]? = some (.cells #[.int .i64 (m : Int)] 168 (0, 0)) ∧ w.grownBy w' (some g) ∧ e = .returned (.bool (rrB t deep nodes)) ∧ (rrB t deep nodes = true → m = nodes + t.count)
set_option maxRecDepth 100000 in
set_option maxHeartbeats 1600000 in
theorem pright_rec : ∀ (v : V) (deep nodes : Nat) (w : World) (lo hi g : Nat), Lies w lo hi v → hi ≤ g → w.heap[g]? = some (.cells #[.int .i64 (nodes : Int)] 168 (0, 0)) → nodes ≤ 32 → deep ≤ 9 →
    Calls Tryz.prog 96 #[.pointer (some ⟨g, 0, none⟩), v.val, .int .i64 (deep : Int)] w (RrEnd v.abs deep nodes g w) := by
  refine V.ind fun k a b A c ps ih deep nodes w lo hi g hL hhg hrb hn hd => ?_
  obtain ⟨hlen, hcap', -, -, -⟩ := hL.caps
  have hgl := (Array.getElem?_eq_some_iff.1 hrb).1
  have HL : Hid (∀ W, w.grownBy W (some g) → Lies W lo hi (V.node k a b A c ps)) := fun W hW => hL.keep fun p _ hp => World.cell?_of_block (hW.block p.block (by omega) (fun e => by injection e with e; omega))
  have IH : Hid (∀ p ∈ ps, ∀ (dp nd : Nat) (W : World), Lies W lo hi p → W.heap[g]? = some (.cells #[.int .i64 (nd : Int)] 168 (0, 0)) → nd ≤ 32 → dp ≤ 9 → Calls Tryz.prog 96 #[.pointer (some ⟨g, 0, none⟩), p.val, .int .i64 (dp : Int)] W (RrEnd p.abs dp nd g W)) := fun p hp dp nd W h2 h3 h4 h5 => ih p hp dp nd W lo hi g h2 hhg h3 h4 h5
  obtain ⟨tt, htt⟩ : ∃ tt, tt = (V.node k a b A c ps).abs := ⟨_, rfl⟩
  have HTT : Hid (tt.allB = (T.allL (V.absL ps) && fitsB k a b ps.length) ∧ tt.depth = T.depthL (V.absL ps) + 1 ∧ tt.count = 1 + T.countL (V.absL ps)) := by rw [htt]; exact ⟨V.all_node .., V.depth_node .., V.count_node ..⟩
  rw [← htt]
  have hbx := heap_alloc_new w (.cells #[.int .i64 k, .int .u64 (a : Int), .int .u64 (b : Int), .slice A ps.length c] 44)
  have hb0 := below_new w (.cells #[.int .i64 k, .int .u64 (a : Int), .int .u64 (b : Int), .slice A ps.length c] 44)
  have KD := kindof_any k (w.alloc (.cells #[.int .i64 k, .int .u64 (a : Int), .int .u64 (b : Int), .slice A ps.length c] 44))
  clear ih hL htt
  simp only [V.val, V.kind, V.a, V.b, V.sl, V.addr, V.parts, V.cap]
  by_cases hk : 1 ≤ k ∧ k ≤ 7
  · have HFT := Lib_hid (fun wx => fits_any k hk a b ps.length c A wx)
    have hcf := call_fit hk
    rw [kindAt_eq hk, show isKind k = true by unfold isKind; simp; omega] at KD
    generalize wordA k = wd at *
    generalize partN k = pn at *
    generalize numF k = f1 at *
    generalize fitF k = f2 at *
    generalize askF k = f3 at *
    obtain ⟨ft, hft⟩ : ∃ ft, ft = fitsB k a b ps.length := ⟨_, rfl⟩
    rw [← hft] at HFT HTT
    clear hk hft
    go_enter Tryz.func96, Tryz.ntmps96
    go_wp2_with fail
    refine KD.mono ?_
    rintro e w1 ⟨rfl, hb1⟩
    have hbw := hb0.trans (hb1.mono hb0.size)
    have hx1 := (hb1.block w.heap.size (by simp)).trans hbx
    have hg1 := (hbw.block g hgl).trans hrb
    have hsz1 : w.heap.size < w1.heap.size := by have := hb1.size; simp at this; omega
    have hb2 := hbw.alloc hbw.size (.cells #[.string ⟨wd⟩, .int .i64 (pn : Nat), .func (.func f1) #[] #[], .func (.func f2) #[] #[], .func (.func f3) #[] #[]] 205)
    have hx2 := (heap_alloc_old w1 (.cells #[.string ⟨wd⟩, .int .i64 (pn : Nat), .func (.func f1) #[] #[], .func (.func f2) #[] #[], .func (.func f3) #[] #[]] 205) hsz1).trans hx1
    have hg2 := (hb2.block g hgl).trans hrb
    have hk2 := heap_alloc_new w1 (.cells #[.string ⟨wd⟩, .int .i64 (pn : Nat), .func (.func f1) #[] #[], .func (.func f2) #[] #[], .func (.func f3) #[] #[]] 205)
    have hsz2 : (w1.alloc (.cells #[.string ⟨wd⟩, .int .i64 (pn : Nat), .func (.func f1) #[] #[], .func (.func f2) #[] #[], .func (.func f3) #[] #[]] 205)).heap.size = w1.heap.size + 1 := by simp
    clear KD hb1 hb0 hbx hx1 hg1 hbw
    go_upto_region 2 with (fail)
    generalize w1.alloc (.cells #[.string ⟨wd⟩, .int .i64 (pn : Nat), .func (.func f1) #[] #[], .func (.func f2) #[] #[], .func (.func f3) #[] #[]] 205) = w2 at *
    have EN := enter_any g 0 nodes deep w2 (cell_of_row w2 _ 0 _ _ _ hg2) (frozen_of_row w2 _ 0 _ _ hg2) (by omega) (by omega)
    go_wp2_with fail
    refine EN.mono ?_
    rintro e w3 ⟨rfl, hw3⟩
    have hg3 : w3.heap[g]? = some (.cells #[.int .i64 ((nodes + 1 : Nat) : Int)] 168 (0, 0)) := by rw [← hw3]; exact Joins.block_setCell hg2 _
    have hgr3 : w2.grownBy w3 (some g) := by rw [← hw3]; exact grow_set w2 g 0 _
    have hx3 := (hgr3.block w.heap.size (by omega) (fun e => by injection e with e; omega)).trans hx2
    have hk3 := (hgr3.block w1.heap.size (by omega) (fun e => by injection e with e; omega)).trans hk2
    have hgw3 : w.grownBy w3 (some g) := (grow_below hb2 (some g)).trans hgr3
    clear EN hw3 hg2 hgr3 hx2 hk2 hb2
    by_cases hen : deep ≤ 8 ∧ nodes + 1 ≤ 32
    · have HE : Hid (decide (deep ≤ 8 ∧ nodes + 1 ≤ 32) = true) := Lib_hid (by simpa using hen)
      rw [HE.out]
      obtain ⟨hd8, hn32⟩ := hen
      have c0 := cell_of_row w3 _ 0 _ _ _ hx3
      have c1 := cell_of_row w3 _ 1 _ _ _ hx3
      have c2 := cell_of_row w3 _ 2 _ _ _ hx3
      have c3 := cell_of_row w3 _ 3 _ _ _ hx3
      have d3 := cell_of_row w3 _ 3 _ _ _ hk3
      have FT := HFT.out w3
      cases ft with
      | false =>
        have HF : Hid (rrB tt deep nodes = false) := by unfold rrB Hid; rw [HTT.out.1]; simp
        go_wp2_with fail
        refine FT.mono ?_
        rintro e w4 ⟨rfl, hb4⟩
        have hg4 := (hb4.block g (Array.getElem?_eq_some_iff.1 hg3).1).trans hg3
        have hgw4 := hgw3.trans (grow_below hb4 (some g))
        clear FT c0 c1 c2 c3 d3
        go_wp2
        go_ret
        exact ⟨nodes + 1, hg4, hgw4, ret_b HF.out.symm, fun h => by rw [HF.out] at h; cases h⟩
      | true =>
        go_wp2_with fail
        refine FT.mono ?_
        rintro e w4 ⟨rfl, hb4⟩
        have hg4 := (hb4.block g (Array.getElem?_eq_some_iff.1 hg3).1).trans hg3
        have hgw4 := hgw3.trans (grow_below hb4 (some g))
        have hx4 := (hb4.block w.heap.size (Array.getElem?_eq_some_iff.1 hx3).1).trans hx3
        have c3 := cell_of_row w4 _ 3 _ _ _ hx4
        clear FT c0 c1 c2 d3 hx3 hk3 hg3 hgw3 hb4
        go_wp2
        go_loopw [35] (fun x W => ∃ (i m : Nat), x = .int .i64 i ∧ i ≤ ps.length ∧ W.heap[g]? = some (.cells #[.int .i64 (m : Int)] 168 (0, 0)) ∧ m ≤ 32 ∧ Hid (m = nodes + 1 + T.countL (V.absL (ps.take i)) ∧ T.allL (V.absL (ps.take i)) = true ∧ deep + 1 + T.depthL (V.absL (ps.take i)) ≤ 9) ∧ w.grownBy W (some g)) (fun x _ => ps.length - (intOf x).toNat)
        case atStart => exact ⟨0, nodes + 1, rfl, Nat.zero_le _, hg4, hn32, Lib_hid (by simp [V.absL, T.countL, T.allL, T.depthL]; omega), hgw4⟩
        case round =>
          clear hg4 hgw4 hx4 c3
          obtain ⟨i, m, rfl, hi1, hgm, hm32, hme, hgW⟩ := hrel
          rename World => W
          by_cases hlt : i < ps.length
          · obtain ⟨bb, off, p, rfl, hbB, hlo, hp, hpl, d0, d1, d2, d3⟩ := (HL.out W hgW).nth hlt
            have hgmL := (Array.getElem?_eq_some_iff.1 hgm).1
            have hpl' : Lies (W.alloc (.cells #[.int .i64 p.kind, .int .u64 (p.a : Int), .int .u64 (p.b : Int), p.sl] 44)) lo hi p := hpl.keep fun q _ hq => World.cell?_alloc_lt W _ q (by omega)
            have CH := IH.out p (List.mem_of_getElem? hp) (deep + 1) m (W.alloc (.cells #[.int .i64 p.kind, .int .u64 (p.a : Int), .int .u64 (p.b : Int), p.sl] 44)) hpl' ((heap_alloc_old W _ hgmL).trans hgm) hm32 (by omega)
            have HN : Hid ((rrB p.abs (deep + 1) m = true → m + p.abs.count ≤ 32 ∧ m + p.abs.count = nodes + 1 + T.countL (V.absL (ps.take (i + 1))) ∧ T.allL (V.absL (ps.take (i + 1))) = true ∧ deep + 1 + T.depthL (V.absL (ps.take (i + 1))) ≤ 9) ∧ (rrB p.abs (deep + 1) m = false → rrB tt deep nodes = false)) := by
              obtain ⟨h1, h2, h3⟩ := hme.out
              obtain ⟨t1, t2, t3⟩ := HTT.out
              have hcl := count_le hp
              have hdl := depthL_le hp
              refine ⟨fun h => ?_, fun h => ?_⟩
              · simp only [rrB, Bool.and_eq_true, decide_eq_true_eq] at h
                obtain ⟨⟨g1, g2⟩, g3⟩ := h
                rw [countL_take hp, allL_take hp, depthL_take hp, h2, g1]
                exact ⟨g3, by omega, rfl, by omega⟩
              · by_cases ha : p.abs.allB = true
                · have : ¬ (deep + 1 + p.abs.depth ≤ 9 ∧ m + p.abs.count ≤ 32) := by
                    intro ⟨g2, g3⟩
                    rw [rrB, ha, decide_eq_true g2, decide_eq_true g3] at h
                    cases h
                  unfold rrB
                  by_cases q1 : deep + tt.depth ≤ 9
                  · have : ¬ (nodes + tt.count ≤ 32) := by omega
                    rw [decide_eq_false this]; simp
                  · rw [decide_eq_false q1]; simp
                · have ha' : p.abs.allB = false := by simpa using ha
                  unfold rrB
                  rw [t1, allL_bad hp ha']; simp
            have hgA := hgW.trans (grow_below (below_new W (.cells #[.int .i64 p.kind, .int .u64 (p.a : Int), .int .u64 (p.b : Int), p.sl] 44)) (some g))
            rw [show ((deep + 1 : Nat) : Int) = (deep : Int) + 1 by omega] at CH
            cases hr : rrB p.abs (deep + 1) m with
            | true =>
              rw [hr] at HN
              have HR := Lib_hid hr
              obtain ⟨cn, hcn⟩ : ∃ cn, cn = p.abs.count := ⟨_, rfl⟩
              rw [← hcn] at HN
              have HCN := Lib_hid hcn
              obtain ⟨pab, hpab⟩ : ∃ pab, pab = p.abs := ⟨_, rfl⟩
              rw [← hpab] at CH HR HCN
              cases p with
              | node pk pa pb pA pc pps =>
              simp only [V.val, V.kind, V.a, V.b, V.sl, V.addr, V.parts, V.cap] at CH d0 d1 d2 d3 hgA
              clear hp hpl hpl' hme hr hcn hpab hgm
              go_wp2_with fail
              refine CH.mono ?_
              rintro e w5 ⟨m', hg5, hgr5, he, hm'⟩
              rw [HR.out] at he hm'
              subst he
              have hm5 := hm' rfl
              rw [← HCN.out] at hm5
              obtain ⟨n1, n2, n3, n4⟩ := HN.out.1 (by simp)
              have hgW5 := hgA.trans hgr5
              have HM := Lib_hid (show m' = nodes + 1 + T.countL (V.absL (ps.take (i + 1))) ∧ T.allL (V.absL (ps.take (i + 1))) = true ∧ deep + 1 + T.depthL (V.absL (ps.take (i + 1))) ≤ 9 from ⟨hm5.trans n2, n3, n4⟩)
              have hm32' : m' ≤ 32 := by omega
              clear CH hm' hm5 n2 n3 n4 hgr5 hgA d0 d1 d2 d3
              go_wp2
              go_roundw
              case rel => exact ⟨i + 1, m', by go_num, by omega, hg5, hm32', HM, hgW5⟩
              case measure => simp [intOf]; omega
            | false =>
              rw [hr] at HN
              have HR := Lib_hid hr
              have HF := Lib_hid (HN.out.2 rfl)
              obtain ⟨pab, hpab⟩ : ∃ pab, pab = p.abs := ⟨_, rfl⟩
              rw [← hpab] at CH HR
              clear HN
              cases p with
              | node pk pa pb pA pc pps =>
              simp only [V.val, V.kind, V.a, V.b, V.sl, V.addr, V.parts, V.cap] at CH d0 d1 d2 d3 hgA
              clear hp hpl hpl' hme hr hpab hgm
              go_wp2_with fail
              refine CH.mono ?_
              rintro e w5 ⟨m', hg5, hgr5, he, hm'⟩
              rw [HR.out] at he
              subst he
              have hgW5 := hgA.trans hgr5
              clear CH hm' hgr5 hgA d0 d1 d2 d3
              go_wp2
              go_ret
              exact ⟨m', hg5, hgW5, ret_b HF.out.symm, fun h => by rw [HF.out] at h; cases h⟩
          · obtain rfl : i = ps.length := by omega
            have HF : Hid (rrB tt deep nodes = true ∧ m = nodes + tt.count) := by
              obtain ⟨h1, h2, h3⟩ := hme.out
              obtain ⟨t1, t2, t3⟩ := HTT.out
              rw [List.take_length] at h1 h2 h3
              refine ⟨?_, by omega⟩
              unfold rrB
              rw [t1, h2, decide_eq_true (by omega), decide_eq_true (by omega)]; rfl
            clear hme
            go_wp2
            go_ret
            exact ⟨m, hgm, hgW, ret_b HF.out.1.symm, fun _ => HF.out.2⟩
    · have HE : Hid (decide (deep ≤ 8 ∧ nodes + 1 ≤ 32) = false) := Lib_hid (by simpa using hen)
      rw [HE.out]
      have HF : Hid (rrB tt deep nodes = false) := by
        obtain ⟨t1, t2, t3⟩ := HTT.out
        unfold rrB Hid
        by_cases q1 : deep + tt.depth ≤ 9
        · have : ¬ (nodes + tt.count ≤ 32) := by omega
          rw [decide_eq_false this]; simp
        · rw [decide_eq_false q1]; simp
      clear hen
      go_wp2
      go_ret
      exact ⟨nodes + 1, hg3, hgw3, ret_b HF.out.symm, fun h => by rw [HF.out] at h; cases h⟩
  · have HF : Hid (rrB tt deep nodes = false) := by unfold rrB Hid; rw [HTT.out.1, fits_no hk]; simp
    have HK : Hid (kindAt k = .agg #[.string ⟨#[]⟩, .int .i64 0, .nilFunc, .nilFunc, .nilFunc]) := by unfold kindAt isKind Hid; rw [decide_eq_false hk]; rfl
    rw [HK.out, show isKind k = false by unfold isKind; exact decide_eq_false hk] at KD
    clear hk
    go_enter Tryz.func96, Tryz.ntmps96
    go_wp2_with fail
    refine KD.mono ?_
    rintro e w1 ⟨rfl, hb1⟩
    have hbw := hb0.trans (hb1.mono hb0.size)
    have hb2 := hbw.alloc hbw.size (.cells #[.string ⟨#[]⟩, .int .i64 0, .nilFunc, .nilFunc, .nilFunc] 205)
    have hg2 := (hb2.block g hgl).trans hrb
    clear KD hb1 hb0 hbx hbw
    go_wp2
    go_ret
    exact ⟨nodes, hg2, grow_below hb2 _, ret_b HF.out.symm, fun h => by rw [HF.out] at h; cases h⟩
theorem rrB_right (t : T) : rrB t 1 0 = t.rightB := by
  unfold rrB T.rightB
  congr 1
  · congr 1
    rw [decide_eq_decide]; omega
  · rw [decide_eq_decide]; omega
set_option maxRecDepth 100000 in
set_option maxHeartbeats 800000 in
theorem pright_any (v : V) (w : World) (lo hi : Nat) (hL : Lies w lo hi v) (hhi : hi ≤ w.heap.size) :
    Calls Tryz.prog 68 #[v.val] w fun e w' => e = .returned (.bool v.abs.rightB) ∧ Below w.heap.size w w' := by
  obtain ⟨t, ht⟩ : ∃ t, t = v.abs := ⟨_, rfl⟩
  have RR : Hid (∀ W g, Below w.heap.size w W → w.heap.size ≤ g → W.heap[g]? = some (.cells #[.int .i64 0] 168 (0, 0)) → Calls Tryz.prog 96 #[.pointer (some ⟨g, 0, none⟩), v.val, .int .i64 1] W (RrEnd t 1 0 g W)) := fun W g hW hg hgb => by
    have := pright_rec v 1 0 W lo hi g (hL.under (hW.mono hhi)) (by omega) hgb (by omega) (by omega)
    rw [← ht] at this
    exact this
  have HRT := Lib_hid (rrB_right t)
  rw [← ht]
  clear hL ht
  cases v with
  | node k a b A c ps =>
  simp only [V.val, V.kind, V.a, V.b, V.sl, V.addr, V.parts, V.cap] at RR ⊢
  have hb0 := below_new w (.cells #[.int .i64 k, .int .u64 (a : Int), .int .u64 (b : Int), .slice A ps.length c] 44)
  have hb1 := hb0.alloc hb0.size (.cells #[.int .i64 0] 168)
  have hg := heap_alloc_new (w.alloc (.cells #[.int .i64 k, .int .u64 (a : Int), .int .u64 (b : Int), .slice A ps.length c] 44)) (.cells #[.int .i64 0] 168)
  have R1 := RR.out _ _ hb1 (by simp) hg
  simp only [World.size_alloc] at R1
  clear hg hb0
  go_enter Tryz.func68, Tryz.ntmps68
  go_wp2_with fail
  refine R1.mono ?_
  rintro e w1 ⟨m, hgm, hgr, rfl, -⟩
  have hbw := hb1.grown hgr hb1.size (fun j hj => by injection hj with hj; omega)
  clear R1 hgm hgr
  go_wp2
  go_ret
  exact ⟨ret_b HRT.out, hbw⟩
end Go.Proofs.YtdmoknnnlfkfoaaGreatDoor

namespace Go.Proofs.YtdmoknnnlfkfoaaGreatDoor
open Go Go.RowKit
set_option linter.unusedVariables false
mutual
def T.sameB : T → T → Bool
  | .node k a b ps, .node k' a' b' qs => decide (k = k' ∧ a = a' ∧ b = b') && T.sameL ps qs
def T.sameL : List T → List T → Bool
  | [], [] => true
  | p :: ps, q :: qs => p.sameB q && T.sameL ps qs
  | _, _ => false
end
theorem sameL_iff : ∀ (ps qs : List T), (∀ p ∈ ps, ∀ q, p.sameB q = true ↔ p = q) → (T.sameL ps qs = true ↔ ps = qs)
  | [], [], _ => by simp [T.sameL]
  | [], q :: qs, _ => by simp [T.sameL]
  | p :: ps, [], _ => by simp [T.sameL]
  | p :: ps, q :: qs, h => by
    rw [T.sameL, Bool.and_eq_true, h p (by simp), sameL_iff ps qs fun x hx => h x (by simp [hx])]
    simp
theorem sameB_iff : ∀ (t s : T), t.sameB s = true ↔ t = s := by
  refine T.ind fun k a b ps ih s => ?_
  cases s with
  | node k' a' b' qs =>
    rw [T.sameB, Bool.and_eq_true, decide_eq_true_iff, sameL_iff ps qs ih]
    simp [T.node.injEq, and_assoc]
theorem sameB_ne {t s : T} (h : t ≠ s) : t.sameB s = false := by
  cases hs : t.sameB s with
  | false => rfl
  | true => exact absurd ((sameB_iff t s).1 hs) h
theorem sameB_self (t : T) : t.sameB t = true := (sameB_iff t t).2 rfl
theorem V.abs_node (k : Int) (a b : Nat) (A : Option Addr) (c : Nat) (ps : List V) : (V.node k a b A c ps).abs = .node k a b (V.absL ps) := by rw [V.abs]
theorem absL_ne {ps qs : List V} {i : Nat} {p q : V} (hp : ps[i]? = some p) (hq : qs[i]? = some q) (h : p.abs ≠ q.abs) : V.absL ps ≠ V.absL qs := by
  intro e
  have := congrArg (fun l : List T => l[i]?) e
  simp only [absL_map, List.getElem?_map, hp, hq, Option.map_some, Option.some.injEq] at this
  exact h this
set_option maxRecDepth 100000 in
set_option maxHeartbeats 1600000 in
theorem rsame_any : ∀ (v u : V) (w : World) (lo hi lo' hi' : Nat), Lies w lo hi v → hi ≤ w.heap.size → Lies w lo' hi' u → hi' ≤ w.heap.size →
    Calls Tryz.prog 28 #[v.val, u.val] w fun e w' => e = .returned (.bool (v.abs.sameB u.abs)) ∧ Below w.heap.size w w' := by
  refine V.ind fun k a b A c ps ih u w lo hi lo' hi' hL hhi hL' hhi' => ?_
  cases u with
  | node k' a' b' A' c' qs =>
  obtain ⟨hlen, hcap', -, -, -⟩ := hL.caps
  obtain ⟨hlen2, hcap2, -, -, -⟩ := hL'.caps
  have HL : Hid (∀ W, Below w.heap.size w W → Lies W lo hi (V.node k a b A c ps) ∧ Lies W lo' hi' (V.node k' a' b' A' c' qs)) := fun W hW => ⟨hL.under (hW.mono hhi), hL'.under (hW.mono hhi')⟩
  have IH : Hid (∀ p ∈ ps, ∀ (u : V) (W : World), Lies W lo hi p → hi ≤ W.heap.size → Lies W lo' hi' u → hi' ≤ W.heap.size → Calls Tryz.prog 28 #[p.val, u.val] W fun e w' => e = .returned (.bool (p.abs.sameB u.abs)) ∧ Below W.heap.size W w') := fun p hp u W h2 h3 h4 h5 => ih p hp u W lo hi lo' hi' h2 h3 h4 h5
  have hb1 := below_new w (.cells #[.int .i64 k, .int .u64 (a : Int), .int .u64 (b : Int), .slice A ps.length c] 34)
  have hbA := hb1.alloc hb1.size (.cells #[.int .i64 k', .int .u64 (a' : Int), .int .u64 (b' : Int), .slice A' qs.length c'] 34)
  have hx1 := (heap_alloc_old (w.alloc (.cells #[.int .i64 k, .int .u64 (a : Int), .int .u64 (b : Int), .slice A ps.length c] 34)) (.cells #[.int .i64 k', .int .u64 (a' : Int), .int .u64 (b' : Int), .slice A' qs.length c'] 34) (by simp : w.heap.size < _)).trans (heap_alloc_new w (.cells #[.int .i64 k, .int .u64 (a : Int), .int .u64 (b : Int), .slice A ps.length c] 34))
  have hx2 := heap_alloc_new (w.alloc (.cells #[.int .i64 k, .int .u64 (a : Int), .int .u64 (b : Int), .slice A ps.length c] 34)) (.cells #[.int .i64 k', .int .u64 (a' : Int), .int .u64 (b' : Int), .slice A' qs.length c'] 34)
  simp only [World.size_alloc] at hx2
  have HE : Hid ((V.node k a b A c ps).abs = .node k a b (V.absL ps) ∧ (V.node k' a' b' A' c' qs).abs = .node k' a' b' (V.absL qs)) := ⟨V.abs_node .., V.abs_node ..⟩
  obtain ⟨r, hr⟩ : ∃ r, r = (V.node k a b A c ps).abs.sameB (V.node k' a' b' A' c' qs).abs := ⟨_, rfl⟩
  rw [← hr]
  have HR : Hid ((k = k' ∧ a = a' ∧ b = b' ∧ V.absL ps = V.absL qs → r = true) ∧ (¬ (k = k' ∧ a = a' ∧ b = b' ∧ V.absL ps = V.absL qs) → r = false)) := by
    rw [HE.out.1, HE.out.2] at hr
    refine ⟨fun ⟨h1, h2, h3, h4⟩ => ?_, fun h => ?_⟩
    · rw [hr, h1, h2, h3, h4, sameB_self]
    · rw [hr]; exact sameB_ne fun e => h (by injection e with e1 e2 e3 e4; exact ⟨e1, e2, e3, e4⟩)
  clear ih hL hL' hr hb1
  simp only [V.val, V.kind, V.a, V.b, V.sl, V.addr, V.parts, V.cap]
  by_cases hkk : k = k'
  · by_cases haa : a = a'
    · by_cases hbb : b = b'
      · by_cases hll : ps.length = qs.length
        · have q1 : (k != k') = false := by simp [hkk]
          have q2 : ((a : Int) != (a' : Int)) = false := by simp [haa]
          have q3 : ((b : Int) != (b' : Int)) = false := by simp [hbb]
          have q4 : ((ps.length : Int) != (qs.length : Int)) = false := by simp [hll]
          have HQ := Lib_hid (And.intro hkk (And.intro haa (And.intro hbb hll)))
          clear hkk haa hbb hll
          go_enter Tryz.func28, Tryz.ntmps28
          go_wp2
          go_loopw [5] (fun z wr => ∃ i : Nat, z = .int .i64 i ∧ i ≤ ps.length ∧ Hid (V.absL (ps.take i) = V.absL (qs.take i)) ∧ wr.heap[w.heap.size]? = some (.cells #[.int .i64 k, .int .u64 (a : Int), .int .u64 (b : Int), .slice A ps.length c] 34 (0, 0)) ∧ wr.heap[w.heap.size + 1]? = some (.cells #[.int .i64 k', .int .u64 (a' : Int), .int .u64 (b' : Int), .slice A' qs.length c'] 34 (0, 0)) ∧ Below w.heap.size w wr) (fun z _ => ps.length - (intOf z).toNat)
          case atStart => exact ⟨0, rfl, Nat.zero_le _, Lib_hid (by simp [V.absL]), hx1, hx2, hbA⟩
          case round =>
            clear hx1 hx2 hbA q1 q2 q3 q4
            obtain ⟨i, rfl, hi1, hme, hx1, hx2, hbw⟩ := hrel
            have hgl := (Array.getElem?_eq_some_iff.1 hx2).1
            have c3 : wr.cell? ⟨w.heap.size, 3, none⟩ = some (.slice A ps.length c) := cell_of_row wr _ 3 _ _ _ hx1
            by_cases hlt : i < ps.length
            · have hlt2 : i < qs.length := by have := HQ.out.2.2.2; omega
              obtain ⟨bb, off, p, rfl, hbB, hlo, hp, hpl, d0, d1, d2, d3⟩ := (HL.out wr hbw).1.nth hlt
              obtain ⟨bb', off', q, rfl, hbB', hlo', hq, hql, f0, f1, f2, f3⟩ := (HL.out wr hbw).2.nth hlt2
              have CHH : Hid (∀ W, Below wr.heap.size wr W → Calls Tryz.prog 28 #[p.val, q.val] W fun e w' => e = .returned (.bool (p.abs.sameB q.abs)) ∧ Below W.heap.size W w') := fun W hW => IH.out p (List.mem_of_getElem? hp) q W (hpl.under (hW.mono (by omega))) (by have := hW.size; omega) (hql.under (hW.mono (by omega))) (by have := hW.size; omega)
              have HPQ := Lib_hid (And.intro hp hq)
              obtain ⟨sr, hsr⟩ : ∃ sr, sr = p.abs.sameB q.abs := ⟨_, rfl⟩
              rw [← hsr] at CHH
              have HN : Hid ((sr = true → V.absL (ps.take (i + 1)) = V.absL (qs.take (i + 1))) ∧ (sr = false → r = false)) := by
                refine ⟨fun h => ?_, fun h => ?_⟩
                · have : p.abs = q.abs := (sameB_iff _ _).1 (hsr.symm.trans h)
                  rw [absL_take hp, absL_take hq, hme.out, this]
                · refine HR.out.2 fun ⟨_, _, _, h4⟩ => absL_ne hp hq (fun e => ?_) h4
                  rw [e, sameB_self] at hsr
                  rw [hsr] at h; cases h
              have S0 : Hid (∀ W : World, Below wr.heap.size wr W → W.cell? ⟨w.heap.size, 3, none⟩ = some (.slice (some ⟨bb, off, none⟩) ps.length c) ∧ W.cell? ⟨w.heap.size + 1, 3, none⟩ = some (.slice (some ⟨bb', off', none⟩) qs.length c') ∧
                  W.cell? ⟨bb, off + i * 4, none⟩ = some (.int .i64 p.kind) ∧ W.cell? ⟨bb, off + i * 4 + 1, none⟩ = some (.int .u64 (p.a : Int)) ∧ W.cell? ⟨bb, off + i * 4 + 2, none⟩ = some (.int .u64 (p.b : Int)) ∧ W.cell? ⟨bb, off + i * 4 + 3, none⟩ = some p.sl ∧
                  W.cell? ⟨bb', off' + i * 4, none⟩ = some (.int .i64 q.kind) ∧ W.cell? ⟨bb', off' + i * 4 + 1, none⟩ = some (.int .u64 (q.a : Int)) ∧ W.cell? ⟨bb', off' + i * 4 + 2, none⟩ = some (.int .u64 (q.b : Int)) ∧ W.cell? ⟨bb', off' + i * 4 + 3, none⟩ = some q.sl) := fun W hW =>
                ⟨(hW.cell (p := ⟨w.heap.size, 3, none⟩) (by show w.heap.size < _; omega)).trans c3, (hW.cell (p := ⟨w.heap.size + 1, 3, none⟩) hgl).trans (cell_of_row wr _ 3 _ _ _ hx2),
                  (hW.cell (p := ⟨bb, off + i * 4, none⟩) (by show bb < _; omega)).trans d0, (hW.cell (p := ⟨bb, off + i * 4 + 1, none⟩) (by show bb < _; omega)).trans d1, (hW.cell (p := ⟨bb, off + i * 4 + 2, none⟩) (by show bb < _; omega)).trans d2, (hW.cell (p := ⟨bb, off + i * 4 + 3, none⟩) (by show bb < _; omega)).trans d3,
                  (hW.cell (p := ⟨bb', off' + i * 4, none⟩) (by show bb' < _; omega)).trans f0, (hW.cell (p := ⟨bb', off' + i * 4 + 1, none⟩) (by show bb' < _; omega)).trans f1, (hW.cell (p := ⟨bb', off' + i * 4 + 2, none⟩) (by show bb' < _; omega)).trans f2, (hW.cell (p := ⟨bb', off' + i * 4 + 3, none⟩) (by show bb' < _; omega)).trans f3⟩
              cases p with
              | node pk pa pb pA pc pps =>
              cases q with
              | node qk qa qb qA qc qqs =>
              simp only [V.val, V.kind, V.a, V.b, V.sl, V.addr, V.parts, V.cap] at CHH S0 d0 d1 d2 d3 f0 f1 f2 f3
              have c4 : wr.cell? ⟨w.heap.size + 1, 3, none⟩ = some (.slice (some ⟨bb', off', none⟩) qs.length c') := cell_of_row wr _ 3 _ _ _ hx2
              have HX := Lib_hid (And.intro hx1 hx2)
              clear hsr hp hq hpl hql hme hx1 hx2
              go_wp2_with fail
              go_region_held3 (fun W => W.cell? ⟨w.heap.size, 3, none⟩ = some (.slice (some ⟨bb, off, none⟩) ps.length c) ∧ W.cell? ⟨w.heap.size + 1, 3, none⟩ = some (.slice (some ⟨bb', off', none⟩) qs.length c') ∧
                  W.cell? ⟨bb, off + i * 4, none⟩ = some (.int .i64 pk) ∧ W.cell? ⟨bb, off + i * 4 + 1, none⟩ = some (.int .u64 (pa : Int)) ∧ W.cell? ⟨bb, off + i * 4 + 2, none⟩ = some (.int .u64 (pb : Int)) ∧ W.cell? ⟨bb, off + i * 4 + 3, none⟩ = some (.slice pA pps.length pc) ∧
                  W.cell? ⟨bb', off' + i * 4, none⟩ = some (.int .i64 qk) ∧ W.cell? ⟨bb', off' + i * 4 + 1, none⟩ = some (.int .u64 (qa : Int)) ∧ W.cell? ⟨bb', off' + i * 4 + 2, none⟩ = some (.int .u64 (qb : Int)) ∧ W.cell? ⟨bb', off' + i * 4 + 3, none⟩ = some (.slice qA qqs.length qc))
                (first | exact S0.out _ ⟨rfl, rfl, rfl, Nat.le_refl _, fun _ _ => rfl⟩ | exact S0.out _ hbs)
                ((go_at_call 28; ((with_reducible refine (CHH.out wr.drew ⟨rfl, rfl, rfl, Nat.le_refl _, fun _ _ => rfl⟩).mono ?_); rintro e ws ⟨rfl, hs'⟩; have hbs : Below wr.heap.size wr ws := ⟨hs'.os, hs'.tape, hs'.output, hs'.size, hs'.block⟩)))
              all_goals
                have hbws := hbw.trans (hbs.mono hbw.size)
                have hx1' := (hbs.block w.heap.size (by omega)).trans HX.out.1
                have hx2' := (hbs.block (w.heap.size + 1) hgl).trans HX.out.2
                clear d0 d1 d2 d3 f0 f1 f2 f3 c3 c4
                cases sr with
                | true =>
                  have HM := Lib_hid (HN.out.1 (by simp))
                  go_wp2
                  go_roundw
                  case rel => exact ⟨i + 1, by go_num, by omega, HM, hx1', hx2', hbws⟩
                  case measure => simp [intOf]; omega
                | false =>
                  have HM := Lib_hid (HN.out.2 (by simp))
                  go_wp2
                  go_ret
                  exact ⟨ret_b HM.out.symm, hbws⟩
            · obtain rfl : i = ps.length := by omega
              have HM : Hid (r = true) := by
                have h := hme.out
                rw [List.take_length, HQ.out.2.2.2, List.take_length] at h
                exact HR.out.1 ⟨HQ.out.1, HQ.out.2.1, HQ.out.2.2.1, h⟩
              clear hme hx1 hx2
              go_wp2
              go_ret
              exact ⟨ret_b HM.out.symm, hbw⟩
        · have HM := Lib_hid (HR.out.2 fun ⟨_, _, _, h4⟩ => hll (by have := congrArg List.length h4; rwa [absL_length, absL_length] at this))
          have q1 : (k != k') = false := by simp [hkk]
          have q2 : ((a : Int) != (a' : Int)) = false := by simp [haa]
          have q3 : ((b : Int) != (b' : Int)) = false := by simp [hbb]
          have q4 : ((ps.length : Int) != (qs.length : Int)) = true := by simp; omega
          clear hkk haa hbb hll hx1 hx2
          go_enter Tryz.func28, Tryz.ntmps28
          go_wp2
          go_ret
          exact ⟨ret_b HM.out.symm, hbA⟩
      · have HM := Lib_hid (HR.out.2 fun ⟨_, _, h3, _⟩ => hbb h3)
        have q1 : (k != k') = false := by simp [hkk]
        have q2 : ((a : Int) != (a' : Int)) = false := by simp [haa]
        have q3 : ((b : Int) != (b' : Int)) = true := by simp; omega
        clear hkk haa hbb hx1 hx2
        go_enter Tryz.func28, Tryz.ntmps28
        go_wp2
        go_ret
        exact ⟨ret_b HM.out.symm, hbA⟩
    · have HM := Lib_hid (HR.out.2 fun ⟨_, h2, _⟩ => haa h2)
      have q1 : (k != k') = false := by simp [hkk]
      have q2 : ((a : Int) != (a' : Int)) = true := by simp; omega
      clear hkk haa hx1 hx2
      go_enter Tryz.func28, Tryz.ntmps28
      go_wp2
      go_ret
      exact ⟨ret_b HM.out.symm, hbA⟩
  · have HM := Lib_hid (HR.out.2 fun ⟨h1, _⟩ => hkk h1)
    have q1 : (k != k') = true := by simp [hkk]
    clear hkk hx1 hx2
    go_enter Tryz.func28, Tryz.ntmps28
    go_wp2
    go_ret
    exact ⟨ret_b HM.out.symm, hbA⟩
end Go.Proofs.YtdmoknnnlfkfoaaGreatDoor

namespace Go.Proofs.YtdmoknnnlfkfoaaGreatDoor
open Go Go.RowKit
set_option linter.unusedVariables false
def SameC (lo hi lo' hi' : Nat) (ps : List V) : Prop := ∀ p ∈ ps, ∀ (u : V) (W : World), Lies W lo hi p → hi ≤ W.heap.size → Lies W lo' hi' u → hi' ≤ W.heap.size → Calls Tryz.prog 71 #[p.val, u.val] W fun e w' => e = .returned (.bool (p.abs.sameB u.abs)) ∧ Below W.heap.size W w'
set_option maxRecDepth 100000 in
set_option maxHeartbeats 1600000 in
theorem eqf_any (k k' : Int) (a b a' b' c c' lo hi lo' hi' : Nat) (A A' : Option Addr) (ps qs : List V) (w : World) (hL : Lies w lo hi (.node k a b A c ps)) (hhi : hi ≤ w.heap.size) (hL' : Lies w lo' hi' (.node k' a' b' A' c' qs)) (hhi' : hi' ≤ w.heap.size) (hC : SameC lo hi lo' hi' ps) :
    Calls Tryz.prog 98 #[.slice A ps.length c, .slice A' qs.length c', .func (.func 71) #[] #[]] w fun e w' => ∃ r, e = .returned (.bool r) ∧ (r = true ↔ V.absL ps = V.absL qs) ∧ Below w.heap.size w w' := by
  obtain ⟨hlen, hcap', -, -, -⟩ := hL.caps
  obtain ⟨hlen2, hcap2, -, -, -⟩ := hL'.caps
  have HL : Hid (∀ W, Below w.heap.size w W → Lies W lo hi (V.node k a b A c ps) ∧ Lies W lo' hi' (V.node k' a' b' A' c' qs)) := fun W hW => ⟨hL.under (hW.mono hhi), hL'.under (hW.mono hhi')⟩
  have IH := Lib_hid hC
  clear hL hL' hC
  by_cases hll : ps.length = qs.length
  · have q4 : ((ps.length : Int) != (qs.length : Int)) = false := by simp [hll]
    have HQ := Lib_hid hll
    clear hll
    go_enter Tryz.func98, Tryz.ntmps98
    go_wp2
    go_loopw [17] (fun z wr => ∃ i : Nat, z = .int .i64 i ∧ i ≤ ps.length ∧ Hid (V.absL (ps.take i) = V.absL (qs.take i)) ∧ Below w.heap.size w wr) (fun z _ => ps.length - (intOf z).toNat)
    case atStart => exact ⟨0, rfl, Nat.zero_le _, Lib_hid (by simp [V.absL]), Below.refl _ _⟩
    case round =>
      clear q4
      obtain ⟨i, rfl, hi1, hme, hbw⟩ := hrel
      by_cases hlt : i < ps.length
      · have hlt2 : i < qs.length := by have := HQ.out; omega
        obtain ⟨bb, off, p, rfl, hbB, hlo, hp, hpl, d0, d1, d2, d3⟩ := (HL.out wr hbw).1.nth hlt
        obtain ⟨bb', off', q, rfl, hbB', hlo', hq, hql, f0, f1, f2, f3⟩ := (HL.out wr hbw).2.nth hlt2
        have hszw := hbw.size
        have hbl : bb' < wr.heap.size := by omega
        have hb1 := below_new wr (.cells #[.int .i64 p.kind, .int .u64 (p.a : Int), .int .u64 (p.b : Int), p.sl] 44)
        have hb2 := hb1.alloc hb1.size (.cells #[.int .i64 q.kind, .int .u64 (q.a : Int), .int .u64 (q.b : Int), q.sl] 44)
        have CH := IH.out p (List.mem_of_getElem? hp) q ((wr.alloc (.cells #[.int .i64 p.kind, .int .u64 (p.a : Int), .int .u64 (p.b : Int), p.sl] 44)).alloc (.cells #[.int .i64 q.kind, .int .u64 (q.a : Int), .int .u64 (q.b : Int), q.sl] 44)) (hpl.under (hb2.mono (by omega))) (by simp; omega) (hql.under (hb2.mono (by omega))) (by simp; omega)
        have hbA := hbw.trans (hb2.mono hbw.size)
        obtain ⟨sr, hsr⟩ : ∃ sr, sr = p.abs.sameB q.abs := ⟨_, rfl⟩
        rw [← hsr] at CH
        have HN : Hid ((sr = true → V.absL (ps.take (i + 1)) = V.absL (qs.take (i + 1))) ∧ (sr = false → ¬ V.absL ps = V.absL qs)) := by
          refine ⟨fun h => ?_, fun h => ?_⟩
          · have : p.abs = q.abs := (sameB_iff _ _).1 (hsr.symm.trans h)
            rw [absL_take hp, absL_take hq, hme.out, this]
          · refine absL_ne hp hq (fun e => ?_)
            rw [e, sameB_self] at hsr
            rw [hsr] at h; cases h
        cases p with
        | node pk pa pb pA pc pps =>
        cases q with
        | node qk qa qb qA qc qqs =>
        simp only [V.val, V.kind, V.a, V.b, V.sl, V.addr, V.parts, V.cap] at CH d0 d1 d2 d3 f0 f1 f2 f3 hbA
        clear hsr hp hq hpl hql hme hb1 hb2
        go_wp2_with fail
        refine CH.mono ?_
        rintro e ws ⟨rfl, hbs⟩
        have hbws := hbA.trans (hbs.mono hbA.size)
        clear CH hbs hbA d0 d1 d2 d3 f0 f1 f2 f3
        cases sr with
        | true =>
          have HM := Lib_hid (HN.out.1 (by simp))
          go_wp2
          go_roundw
          case rel => exact ⟨i + 1, by go_num, by omega, HM, hbws⟩
          case measure => simp [intOf]; omega
        | false =>
          have HM := Lib_hid (HN.out.2 (by simp))
          have PF : Hid (∀ W, Below w.heap.size w W → ∃ r, Ending.returned (.bool false) = .returned (.bool r) ∧ (r = true ↔ V.absL ps = V.absL qs) ∧ Below w.heap.size w W) := fun W hW => ⟨false, rfl, ⟨(fun h => by cases h), fun h => absurd h HM.out⟩, hW⟩
          go_wp2
          go_ret
          exact PF.out _ hbws
      · obtain rfl : i = ps.length := by omega
        have HM : Hid (V.absL ps = V.absL qs) := by
          have h := hme.out
          rw [List.take_length, HQ.out, List.take_length] at h
          exact h
        have PF : Hid (∀ W, Below w.heap.size w W → ∃ r, Ending.returned (.bool true) = .returned (.bool r) ∧ (r = true ↔ V.absL ps = V.absL qs) ∧ Below w.heap.size w W) := fun W hW => ⟨true, rfl, ⟨fun _ => HM.out, fun _ => rfl⟩, hW⟩
        clear hme
        go_wp2
        go_ret
        exact PF.out _ hbw
  · have q4 : ((ps.length : Int) != (qs.length : Int)) = true := by simp; omega
    have PF : Hid (∀ W, Below w.heap.size w W → ∃ r, Ending.returned (.bool false) = .returned (.bool r) ∧ (r = true ↔ V.absL ps = V.absL qs) ∧ Below w.heap.size w W) := fun W hW => ⟨false, rfl, ⟨(fun h => by cases h), fun h => absurd (by have := congrArg List.length h; rwa [absL_length, absL_length] at this) hll⟩, hW⟩
    clear hll
    go_enter Tryz.func98, Tryz.ntmps98
    go_wp2
    go_ret
    exact PF.out _ (Below.refl _ _)
set_option maxRecDepth 100000 in
set_option maxHeartbeats 1600000 in
theorem psame_any : ∀ (v u : V) (w : World) (lo hi lo' hi' : Nat), Lies w lo hi v → hi ≤ w.heap.size → Lies w lo' hi' u → hi' ≤ w.heap.size →
    Calls Tryz.prog 71 #[v.val, u.val] w fun e w' => e = .returned (.bool (v.abs.sameB u.abs)) ∧ Below w.heap.size w w' := by
  refine V.ind fun k a b A c ps ih u w lo hi lo' hi' hL hhi hL' hhi' => ?_
  cases u with
  | node k' a' b' A' c' qs =>
  have hb1 := below_new w (.cells #[.int .i64 k, .int .u64 (a : Int), .int .u64 (b : Int), .slice A ps.length c] 44)
  have hbA := hb1.alloc hb1.size (.cells #[.int .i64 k', .int .u64 (a' : Int), .int .u64 (b' : Int), .slice A' qs.length c'] 44)
  have EF := eqf_any k k' a b a' b' c c' lo hi lo' hi' A A' ps qs ((w.alloc (.cells #[.int .i64 k, .int .u64 (a : Int), .int .u64 (b : Int), .slice A ps.length c] 44)).alloc (.cells #[.int .i64 k', .int .u64 (a' : Int), .int .u64 (b' : Int), .slice A' qs.length c'] 44)) (hL.under (hbA.mono hhi)) (by simp; omega) (hL'.under (hbA.mono hhi')) (by simp; omega) (fun p hp u W h2 h3 h4 h5 => ih p hp u W lo hi lo' hi' h2 h3 h4 h5)
  have HE : Hid ((V.node k a b A c ps).abs = .node k a b (V.absL ps) ∧ (V.node k' a' b' A' c' qs).abs = .node k' a' b' (V.absL qs)) := ⟨V.abs_node .., V.abs_node ..⟩
  obtain ⟨r, hr⟩ : ∃ r, r = (V.node k a b A c ps).abs.sameB (V.node k' a' b' A' c' qs).abs := ⟨_, rfl⟩
  rw [← hr]
  have HR : Hid ((k = k' ∧ a = a' ∧ b = b' ∧ V.absL ps = V.absL qs → r = true) ∧ (¬ (k = k' ∧ a = a' ∧ b = b' ∧ V.absL ps = V.absL qs) → r = false)) := by
    rw [HE.out.1, HE.out.2] at hr
    refine ⟨fun ⟨h1, h2, h3, h4⟩ => ?_, fun h => ?_⟩
    · rw [hr, h1, h2, h3, h4, sameB_self]
    · rw [hr]; exact sameB_ne fun e => h (by injection e with e1 e2 e3 e4; exact ⟨e1, e2, e3, e4⟩)
  clear ih hL hL' hr hb1
  simp only [V.val, V.kind, V.a, V.b, V.sl, V.addr, V.parts, V.cap]
  by_cases hkk : k = k'
  · by_cases haa : a = a'
    · by_cases hbb : b = b'
      · have q1 : (k == k') = true := by simp [hkk]
        have q2 : ((a : Int) == (a' : Int)) = true := by simp [haa]
        have q3 : ((b : Int) == (b' : Int)) = true := by simp [hbb]
        have HQ := Lib_hid (And.intro hkk (And.intro haa hbb))
        clear hkk haa hbb
        go_enter Tryz.func71, Tryz.ntmps71
        go_wp2_with fail
        refine EF.mono ?_
        rintro e w1 ⟨s, rfl, hs, hb2⟩
        have hbw := hbA.trans (hb2.mono hbA.size)
        have HM : Hid (s = r) := by
          cases s with
          | true => exact (HR.out.1 ⟨HQ.out.1, HQ.out.2.1, HQ.out.2.2, hs.1 rfl⟩).symm
          | false => exact (HR.out.2 fun ⟨_, _, _, h4⟩ => by have := hs.2 h4; cases this).symm
        clear EF hs hb2 hbA
        go_wp2
        go_ret
        exact ⟨ret_b HM.out, hbw⟩
      · have HM := Lib_hid (HR.out.2 fun ⟨_, _, h3, _⟩ => hbb h3)
        have q1 : (k == k') = true := by simp [hkk]
        have q2 : ((a : Int) == (a' : Int)) = true := by simp [haa]
        have q3 : ((b : Int) == (b' : Int)) = false := by simp; omega
        clear hkk haa hbb EF
        go_enter Tryz.func71, Tryz.ntmps71
        go_wp2
        go_ret
        exact ⟨ret_b HM.out.symm, hbA⟩
    · have HM := Lib_hid (HR.out.2 fun ⟨_, h2, _⟩ => haa h2)
      have q1 : (k == k') = true := by simp [hkk]
      have q2 : ((a : Int) == (a' : Int)) = false := by simp; omega
      clear hkk haa EF
      go_enter Tryz.func71, Tryz.ntmps71
      go_wp2
      go_ret
      exact ⟨ret_b HM.out.symm, hbA⟩
  · have HM := Lib_hid (HR.out.2 fun ⟨h1, _⟩ => hkk h1)
    have q1 : (k == k') = false := by simp [hkk]
    clear hkk EF
    go_enter Tryz.func71, Tryz.ntmps71
    go_wp2
    go_ret
    exact ⟨ret_b HM.out.symm, hbA⟩
end Go.Proofs.YtdmoknnnlfkfoaaGreatDoor
