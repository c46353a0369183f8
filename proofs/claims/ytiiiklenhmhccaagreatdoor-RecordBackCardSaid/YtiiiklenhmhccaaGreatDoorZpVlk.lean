/-
  Layer 5: Put, the document's.
  Layer 5: the program's words: decimal, joined, next, number.
-/
import Derived.Test.YtiiiklenhmhccaaGreatDoorZpVpu
import Derived.Test.YtiiiklenhmhccaaGreatDoorZpVfd
import Derived.Test.YtiiiklenhmhccaaGreatDoorZpTdg
import Derived.Test.YtiiiklenhmhccaaGreatDoorZpVpm
import Derived.Test.YtiiiklenhmhccaaGreatDoorZpVpl

namespace Go.Proofs.YtiiiklenhmhccaaGreatDoor
open Go Go.RowKit
set_option linter.unusedVariables false
def frD (r : Rc) : Nat × List Nat := if r.rightB then (r.kind.toNat, r.stand) else (0, [])
def erD (r : Rc) : Nat := if r.rightB then 0 else 50
def DPut (r : Rc) (w : World) (e : Ending) (w' : World) : Prop := e = .returned (.tuple #[dfv (frD r).1 (frD r).2, .int .i64 (erD r : Int)]) ∧ Below w.heap.size w w'
theorem dput_ret {Q : Ending → World → Prop} {W : World} {h0 : Nat} {z : Int} {x0 x1 : Value} (HR2 : W.heap[h0]? = some (.cells #[x0, x1] 42 (0, 0))) (HF2 : Q (.returned (.tuple #[.agg #[x0, x1], .int .i64 z])) W)
    (tmps : Array Value) (h2 : tmps.getD 2 undef = .pointer (some ⟨h0, 0, none⟩)) (h3 : tmps.getD 3 undef = .int .i64 z) : bodyPost Tryz.prog Tryz.f11 Q .ret { tmps := tmps, defers := [] } W := by
  rw [Array.getD_eq_getD_getElem?] at h2 h3
  have d0 := cell_of_row W _ 0 _ _ _ HR2
  have d1 := cell_of_row W _ 1 _ _ _ HR2
  simp at d0 d1
  exact bodyPost_ret (v := .tuple #[.agg #[x0, x1], .int .i64 z]) (by simp [results, Tryz.results11, go_sem, h2, h3, d0, d1]) rfl HF2
theorem stand_of (r : Rc) : r.stand = if r.kind = 2 then encs [r.t, r.x, r.w, r.n] else if r.kind = 3 then encs [r.t, r.x, r.v] else if r.kind = 4 then encs [r.t, r.x] else if r.kind = 5 then encs [r.t, r.p.put.length] ++ r.p.put ++ encs [r.es.length] ++ r.es.flatMap En.stand else encs [r.t] := by
  unfold Rc.stand
  rw [partsN_of]
  split
  · simp [Rc.standN, Rc.standP, encs]
  split
  · simp [Rc.standN, Rc.standP, encs]
  split
  · simp [Rc.standN, Rc.standP, encs]
  split
  · simp [Rc.standN, Rc.standP, encs]
  · simp [Rc.standN, Rc.standP, encs]
set_option maxRecDepth 100000 in
set_option maxHeartbeats 12800000 in
theorem dput5_any (r : Rv) (w : World) (lo hi : Nat) (hL : RLies w lo hi r) (hhi : hi ≤ w.heap.size) (hct : r.p.abs.count ≤ 1000) (hes : r.es.length ≤ 1000) :
    Calls Tryz.prog 11 #[r.val] w (DPut r.abs w) := by
  obtain ⟨i0, hi0, hz0, hz1, hz2⟩ := info_parts Tryz.info5
  have RG : Hid (∀ W, Below w.heap.size w W → Calls Tryz.prog 17 #[r.val] W fun e w' => e = .returned (.bool r.abs.rightB) ∧ Below W.heap.size W w') := fun W hW => rright5_any r W lo hi (hL.under (hW.mono hhi)) (Nat.le_trans hhi hW.size) hct
  have PT : Hid (∀ W, Below w.heap.size w W → Calls Tryz.prog 40 #[r.p.val] W (Made 5 r.p.abs.put W)) := fun W hW => rput4_any r.p W lo hi (hL.p.under (hW.mono hhi)) (Nat.le_trans hhi hW.size) hct
  have HR : Hid (∀ W, Below w.heap.size w W → Rd W hi 4 r.A r.es.length (enCells r.es)) := fun W hW => hL.es.below (hW.mono hhi)
  have NM : Hid (∀ (l : List Nat) (cs : Array Value) (g m : Nat) (W : World), cs = (us l).toArray → g = W.heap.size → m = l.length → (∀ y ∈ l, (y : Int) ≤ 18446744073709551615) → l.length ≤ 1000 → Calls Tryz.prog 39 #[.slice (some ⟨g, 0, none⟩) m m] (W.alloc (.cells cs 22)) fun e w' => ∃ A c, e = .returned (.slice A (encs l).length c) ∧ w'.ownsRow W.heap.size 5 1 (.slice A (encs l).length c) (encs l).length (bs (encs l)) ∧ Below W.heap.size W w') := fun l cs g m W h1 h2 h3 h4 h5 => by
    subst h1 h2 h3
    have hb := below_new W (.cells (us l).toArray 22)
    refine (dnums5_any (W.heap.size + 1) _ l.length l.length l _ (rd_row (size := 1) (n := l.length) (heap_alloc_new W _) (by rw [us_length]; omega)) h4 h5 (by simp)).mono ?_
    rintro e w' ⟨A, c, rfl, ho, hb2⟩
    exact ⟨A, c, rfl, own_base ho (fun j hj => by have := own_ge ho j hj; simp at this; omega), hb.trans (hb2.mono (by simp))⟩
  have HN := Lib_hid (And.intro hL.t (And.intro hL.x (And.intro hL.wn (And.intro hL.n hL.v))))
  have HOK := Lib_hid hL.ok
  have HPL := Lib_hid (put_len hL.p)
  have HES : Hid (∀ i, (esS r.es i).length ≤ 31 * i) := esS_len hL.ok
  have HFN : Hid (r.abs.rightB = false → ∀ W, Below w.heap.size w W → DPut r.abs w (.returned (.tuple #[.agg #[.int .u8 0, .string ⟨#[]⟩], .int .i64 50])) W) := fun h W hW => ⟨by unfold frD erD; rw [h]; rfl, hW⟩
  have HFY : Hid (r.abs.rightB = true → (1 ≤ r.kind ∧ r.kind ≤ 7) ∧ ∀ W st, st = r.abs.stand → Below w.heap.size w W → DPut r.abs w (.returned (.tuple #[.agg #[.int .u8 r.kind, .string (strb st)], .int .i64 0])) W) := fun h => by
    have hk : 1 ≤ r.kind ∧ r.kind ≤ 7 := (right_shape h).1
    refine ⟨hk, fun W st hst hW => ⟨?_, hW⟩⟩
    subst hst
    unfold frD erD
    rw [h]
    have : ((r.abs.kind.toNat : Nat) : Int) = r.kind := by show ((r.kind.toNat : Nat) : Int) = r.kind; omega
    simp only [if_true, dfv]
    rw [this]
    rfl
  have HST : Hid (r.abs.stand = if r.kind = 2 then encs [r.t, r.x, r.w, r.n] else if r.kind = 3 then encs [r.t, r.x, r.v] else if r.kind = 4 then encs [r.t, r.x] else if r.kind = 5 then encs [r.t, r.p.abs.put.length] ++ r.p.abs.put ++ encs [r.es.length] ++ r.es.flatMap En.stand else encs [r.t]) := stand_of r.abs
  clear hL hct
  generalize r.abs = ra at *
  obtain ⟨k, t, x, wn, nn, v, p, Ae, ce, es⟩ := r
  have HEF : Hid (esS es es.length = es.flatMap En.stand ∧ esS es 0 = []) := ⟨by unfold esS; rw [List.take_length], by simp [esS]⟩
  simp only [Rv.val, Rv.arr, Rv.sl, V.sl, V.val] at RG PT HR HN HOK HPL HES HFN HFY HST hes ⊢
  generalize p.abs.put = pp at *
  generalize p.addr = pA at *
  generalize p.parts.length = pn at *
  generalize p.cap = pc at *
  generalize p.kind = pk at *
  generalize (p.a : Int) = pa at *
  generalize (p.b : Int) = pb at *
  obtain ⟨en, hen⟩ : ∃ en, en = es.length := ⟨_, rfl⟩
  have HEN := Lib_hid hen
  rw [← hen] at RG HR HST HEF hes ⊢
  clear hen
  have hx1 := heap_alloc_new w (.cells #[.int .i64 k, .int .u64 (t : Int), .int .u64 (x : Int), .int .u64 (wn : Int), .int .u64 (nn : Int), .int .u64 (v : Int), .int .i64 pk, .int .u64 pa, .int .u64 pb, .slice pA pn pc, .slice Ae en ce] 39)
  have hb1 := below_new w (.cells #[.int .i64 k, .int .u64 (t : Int), .int .u64 (x : Int), .int .u64 (wn : Int), .int .u64 (nn : Int), .int .u64 (v : Int), .int .i64 pk, .int .u64 pa, .int .u64 pb, .slice pA pn pc, .slice Ae en ce] 39)
  have hf2 := heap_alloc_new (w.alloc (.cells #[.int .i64 k, .int .u64 (t : Int), .int .u64 (x : Int), .int .u64 (wn : Int), .int .u64 (nn : Int), .int .u64 (v : Int), .int .i64 pk, .int .u64 pa, .int .u64 pb, .slice pA pn pc, .slice Ae en ce] 39)) (.cells #[.int .u8 0, .string ⟨#[]⟩] 42)
  have hx2 := (heap_alloc_old (w.alloc (.cells #[.int .i64 k, .int .u64 (t : Int), .int .u64 (x : Int), .int .u64 (wn : Int), .int .u64 (nn : Int), .int .u64 (v : Int), .int .i64 pk, .int .u64 pa, .int .u64 pb, .slice pA pn pc, .slice Ae en ce] 39)) (.cells #[.int .u8 0, .string ⟨#[]⟩] 42) (lt_of_block hx1)).trans hx1
  have hb2 := hb1.alloc hb1.size (.cells #[.int .u8 0, .string ⟨#[]⟩] 42)
  rw [show (w.alloc (.cells #[.int .i64 k, .int .u64 (t : Int), .int .u64 (x : Int), .int .u64 (wn : Int), .int .u64 (nn : Int), .int .u64 (v : Int), .int .i64 pk, .int .u64 pa, .int .u64 pb, .slice pA pn pc, .slice Ae en ce] 39)).heap.size = w.heap.size + 1 by simp] at hf2
  go_enter Tryz.func11, Tryz.ntmps11
  go_upto_region 1 with (fail)
  generalize (w.alloc (.cells #[.int .i64 k, .int .u64 (t : Int), .int .u64 (x : Int), .int .u64 (wn : Int), .int .u64 (nn : Int), .int .u64 (v : Int), .int .i64 pk, .int .u64 pa, .int .u64 pb, .slice pA pn pc, .slice Ae en ce] 39)).alloc (.cells #[.int .u8 0, .string ⟨#[]⟩] 42) = w2 at *
  have hs2 := lt_of_block hf2
  have HF : Hid (∀ W, Below w2.heap.size w2 W → W.heap[w.heap.size]? = some (.cells #[.int .i64 k, .int .u64 (t : Int), .int .u64 (x : Int), .int .u64 (wn : Int), .int .u64 (nn : Int), .int .u64 (v : Int), .int .i64 pk, .int .u64 pa, .int .u64 pb, .slice pA pn pc, .slice Ae en ce] 39 (0, 0)) ∧ W.heap[w.heap.size + 1]? = some (.cells #[.int .u8 0, .string ⟨#[]⟩] 42 (0, 0)) ∧ Below w.heap.size w W) := fun W hW =>
    ⟨(hW.block _ (by omega)).trans hx2, (hW.block _ hs2).trans hf2, hb2.trans (hW.mono hb2.size)⟩
  obtain ⟨c0, c1, c2, c3, c4, c5, c6, c7, c8, c9, c10⟩ := rec_cells hx2
  have RR := RG.out w2 hb2
  have hbz := hb2.size
  clear hx1 hb1 hf2 hx2 RG
  cases hrt : ra.rightB with
  | false =>
    rw [hrt] at RR
    have HFN2 := Lib_hid (HFN.out hrt)
    clear hrt HFY HFN HST PT HR NM HN HOK HPL HES HEF HEN
    go_wp2_with fail
    refine RR.mono ?_
    rintro e w3 ⟨rfl, hb3⟩
    obtain ⟨-, hf3, hbw⟩ := HF.out w3 hb3
    have d0 : w3.cell? ⟨w.heap.size + 1, 0, none⟩ = some (.int .u8 0) := cell_of_row w3 _ 0 _ _ _ hf3
    have d1 : w3.cell? ⟨w.heap.size + 1, 1, none⟩ = some (.string ⟨#[]⟩) := cell_of_row w3 _ 1 _ _ _ hf3
    have z0 := frozen_of_row w3 _ 0 _ _ hf3
    have z1 := frozen_of_row w3 _ 1 _ _ hf3
    clear c0 c1 c2 c3 c4 c5 c6 c7 c8 c9 c10 RR HF hb3
    go_wp2
    exact dput_ret (set2_block hf3) (HFN2.out _ (below_set2 hbw (by omega))) _ rfl rfl
  | true =>
    rw [hrt] at RR
    obtain ⟨hk17, hfin⟩ := HFY.out hrt
    have HFIN := Lib_hid hfin
    clear hrt HFY HFN hfin
    go_wp2_with fail
    refine RR.mono ?_
    rintro e w3 ⟨rfl, hb3⟩
    have hs3 := hb3.size
    clear RR c0 c1 c2 c3 c4 c5 c6 c7 c8 c9 c10
    have hk7 : k = 1 ∨ k = 2 ∨ k = 3 ∨ k = 4 ∨ k = 5 ∨ k = 6 ∨ k = 7 := by omega
    clear hk17
    rcases hk7 with rfl | rfl | rfl | rfl | rfl | rfl | rfl
    · have NK := NM.out [t] #[.int .u64 (t : Int)] w3.heap.size 1 w3 rfl rfl rfl (by obtain ⟨a1, a2, a3, a4, a5⟩ := HN.out; intro y hy; simp only [List.mem_cons, List.not_mem_nil, or_false] at hy; subst hy; assumption) (by simp)
      have HSS : Hid (encs [t] = ra.stand) := Lib_hid (HST.out.symm)
      obtain ⟨hx3, -, -⟩ := HF.out w3 hb3
      obtain ⟨c0, c1, c2, c3, c4, c5, c6, c7, c8, c9, c10⟩ := rec_cells hx3
      clear hx3 NM HN HST PT HR HOK HPL HES HEF HEN
      go_wp2_with fail
      refine NK.mono ?_
      rintro e W9 ⟨A9, c9', rfl, ho9, hb9'⟩
      have hb9 := hb3.trans (hb9'.mono hs3)
      have HS9 : Hid (encs [t] = ra.stand) := HSS
      clear NK hb9' HSS c0 c1 c2 c3 c4 c5 c6 c7 c8 c9 c10
      obtain ⟨c9, hc9⟩ : ∃ c9, c9 = c9' := ⟨_, rfl⟩
      rw [← hc9] at ho9 ⊢
      clear hc9
      obtain ⟨n9, hn9⟩ : ∃ n9, n9 = (encs [t]).length := ⟨_, rfl⟩
      rw [← hn9] at ho9 ⊢
      clear hn9
      obtain ⟨hx9, hf9, hbw⟩ := HF.out W9 hb9
      have g0 : W9.cell? ⟨w.heap.size, 0, none⟩ = some (.int .i64 1) := cell_of_row W9 _ 0 _ _ _ hx9
      have d0 : W9.cell? ⟨w.heap.size + 1, 0, none⟩ = some (.int .u8 0) := cell_of_row W9 _ 0 _ _ _ hf9
      have d1 : W9.cell? ⟨w.heap.size + 1, 1, none⟩ = some (.string ⟨#[]⟩) := cell_of_row W9 _ 1 _ _ _ hf9
      have z0 := frozen_of_row W9 _ 0 _ _ hf9
      have z1 := frozen_of_row W9 _ 1 _ _ hf9
      have CV : (convert 46 9 (.slice A9 n9 c9)).run Tryz.prog W9 = .ok (.string (strb (encs [t]))) W9 := run_str (Rd.own ho9) (rd_none (Rd.own ho9))
      have HFF := Lib_hid (HFIN.out _ _ HS9.out (below_set2 (g := w.heap.size + 1) (u := .int .u8 1) (v := .string (strb (encs [t]))) hbw (by omega)))
      have HB2 := Lib_hid (set2_block (x := .int .u8 1) (y := .string (strb (encs [t]))) hf9)
      clear HFIN HF hb9 ho9 hx9 hf9 hbw HS9
      generalize strb (encs [t]) = stv at *
      go_wp2
      exact dput_ret HB2.out HFF.out _ rfl rfl
    · have NK := NM.out [t, x, wn, nn] #[.int .u64 (t : Int), .int .u64 (x : Int), .int .u64 (wn : Int), .int .u64 (nn : Int)] w3.heap.size 4 w3 rfl rfl rfl (by obtain ⟨a1, a2, a3, a4, a5⟩ := HN.out; intro y hy; simp only [List.mem_cons, List.not_mem_nil, or_false] at hy; rcases hy with rfl | rfl | rfl | rfl <;> assumption) (by simp)
      have HSS : Hid (encs [t, x, wn, nn] = ra.stand) := Lib_hid (HST.out.symm)
      obtain ⟨hx3, -, -⟩ := HF.out w3 hb3
      obtain ⟨c0, c1, c2, c3, c4, c5, c6, c7, c8, c9, c10⟩ := rec_cells hx3
      clear hx3 NM HN HST PT HR HOK HPL HES HEF HEN
      go_wp2_with fail
      refine NK.mono ?_
      rintro e W9 ⟨A9, c9', rfl, ho9, hb9'⟩
      have hb9 := hb3.trans (hb9'.mono hs3)
      have HS9 : Hid (encs [t, x, wn, nn] = ra.stand) := HSS
      clear NK hb9' HSS c0 c1 c2 c3 c4 c5 c6 c7 c8 c9 c10
      obtain ⟨c9, hc9⟩ : ∃ c9, c9 = c9' := ⟨_, rfl⟩
      rw [← hc9] at ho9 ⊢
      clear hc9
      obtain ⟨n9, hn9⟩ : ∃ n9, n9 = (encs [t, x, wn, nn]).length := ⟨_, rfl⟩
      rw [← hn9] at ho9 ⊢
      clear hn9
      obtain ⟨hx9, hf9, hbw⟩ := HF.out W9 hb9
      have g0 : W9.cell? ⟨w.heap.size, 0, none⟩ = some (.int .i64 2) := cell_of_row W9 _ 0 _ _ _ hx9
      have d0 : W9.cell? ⟨w.heap.size + 1, 0, none⟩ = some (.int .u8 0) := cell_of_row W9 _ 0 _ _ _ hf9
      have d1 : W9.cell? ⟨w.heap.size + 1, 1, none⟩ = some (.string ⟨#[]⟩) := cell_of_row W9 _ 1 _ _ _ hf9
      have z0 := frozen_of_row W9 _ 0 _ _ hf9
      have z1 := frozen_of_row W9 _ 1 _ _ hf9
      have CV : (convert 46 9 (.slice A9 n9 c9)).run Tryz.prog W9 = .ok (.string (strb (encs [t, x, wn, nn]))) W9 := run_str (Rd.own ho9) (rd_none (Rd.own ho9))
      have HFF := Lib_hid (HFIN.out _ _ HS9.out (below_set2 (g := w.heap.size + 1) (u := .int .u8 2) (v := .string (strb (encs [t, x, wn, nn]))) hbw (by omega)))
      have HB2 := Lib_hid (set2_block (x := .int .u8 2) (y := .string (strb (encs [t, x, wn, nn]))) hf9)
      clear HFIN HF hb9 ho9 hx9 hf9 hbw HS9
      generalize strb (encs [t, x, wn, nn]) = stv at *
      go_wp2
      exact dput_ret HB2.out HFF.out _ rfl rfl
    · have NK := NM.out [t, x, v] #[.int .u64 (t : Int), .int .u64 (x : Int), .int .u64 (v : Int)] w3.heap.size 3 w3 rfl rfl rfl (by obtain ⟨a1, a2, a3, a4, a5⟩ := HN.out; intro y hy; simp only [List.mem_cons, List.not_mem_nil, or_false] at hy; rcases hy with rfl | rfl | rfl <;> assumption) (by simp)
      have HSS : Hid (encs [t, x, v] = ra.stand) := Lib_hid (HST.out.symm)
      obtain ⟨hx3, -, -⟩ := HF.out w3 hb3
      obtain ⟨c0, c1, c2, c3, c4, c5, c6, c7, c8, c9, c10⟩ := rec_cells hx3
      clear hx3 NM HN HST PT HR HOK HPL HES HEF HEN
      go_wp2_with fail
      refine NK.mono ?_
      rintro e W9 ⟨A9, c9', rfl, ho9, hb9'⟩
      have hb9 := hb3.trans (hb9'.mono hs3)
      have HS9 : Hid (encs [t, x, v] = ra.stand) := HSS
      clear NK hb9' HSS c0 c1 c2 c3 c4 c5 c6 c7 c8 c9 c10
      obtain ⟨c9, hc9⟩ : ∃ c9, c9 = c9' := ⟨_, rfl⟩
      rw [← hc9] at ho9 ⊢
      clear hc9
      obtain ⟨n9, hn9⟩ : ∃ n9, n9 = (encs [t, x, v]).length := ⟨_, rfl⟩
      rw [← hn9] at ho9 ⊢
      clear hn9
      obtain ⟨hx9, hf9, hbw⟩ := HF.out W9 hb9
      have g0 : W9.cell? ⟨w.heap.size, 0, none⟩ = some (.int .i64 3) := cell_of_row W9 _ 0 _ _ _ hx9
      have d0 : W9.cell? ⟨w.heap.size + 1, 0, none⟩ = some (.int .u8 0) := cell_of_row W9 _ 0 _ _ _ hf9
      have d1 : W9.cell? ⟨w.heap.size + 1, 1, none⟩ = some (.string ⟨#[]⟩) := cell_of_row W9 _ 1 _ _ _ hf9
      have z0 := frozen_of_row W9 _ 0 _ _ hf9
      have z1 := frozen_of_row W9 _ 1 _ _ hf9
      have CV : (convert 46 9 (.slice A9 n9 c9)).run Tryz.prog W9 = .ok (.string (strb (encs [t, x, v]))) W9 := run_str (Rd.own ho9) (rd_none (Rd.own ho9))
      have HFF := Lib_hid (HFIN.out _ _ HS9.out (below_set2 (g := w.heap.size + 1) (u := .int .u8 3) (v := .string (strb (encs [t, x, v]))) hbw (by omega)))
      have HB2 := Lib_hid (set2_block (x := .int .u8 3) (y := .string (strb (encs [t, x, v]))) hf9)
      clear HFIN HF hb9 ho9 hx9 hf9 hbw HS9
      generalize strb (encs [t, x, v]) = stv at *
      go_wp2
      exact dput_ret HB2.out HFF.out _ rfl rfl
    · have NK := NM.out [t, x] #[.int .u64 (t : Int), .int .u64 (x : Int)] w3.heap.size 2 w3 rfl rfl rfl (by obtain ⟨a1, a2, a3, a4, a5⟩ := HN.out; intro y hy; simp only [List.mem_cons, List.not_mem_nil, or_false] at hy; rcases hy with rfl | rfl <;> assumption) (by simp)
      have HSS : Hid (encs [t, x] = ra.stand) := Lib_hid (HST.out.symm)
      obtain ⟨hx3, -, -⟩ := HF.out w3 hb3
      obtain ⟨c0, c1, c2, c3, c4, c5, c6, c7, c8, c9, c10⟩ := rec_cells hx3
      clear hx3 NM HN HST PT HR HOK HPL HES HEF HEN
      go_wp2_with fail
      refine NK.mono ?_
      rintro e W9 ⟨A9, c9', rfl, ho9, hb9'⟩
      have hb9 := hb3.trans (hb9'.mono hs3)
      have HS9 : Hid (encs [t, x] = ra.stand) := HSS
      clear NK hb9' HSS c0 c1 c2 c3 c4 c5 c6 c7 c8 c9 c10
      obtain ⟨c9, hc9⟩ : ∃ c9, c9 = c9' := ⟨_, rfl⟩
      rw [← hc9] at ho9 ⊢
      clear hc9
      obtain ⟨n9, hn9⟩ : ∃ n9, n9 = (encs [t, x]).length := ⟨_, rfl⟩
      rw [← hn9] at ho9 ⊢
      clear hn9
      obtain ⟨hx9, hf9, hbw⟩ := HF.out W9 hb9
      have g0 : W9.cell? ⟨w.heap.size, 0, none⟩ = some (.int .i64 4) := cell_of_row W9 _ 0 _ _ _ hx9
      have d0 : W9.cell? ⟨w.heap.size + 1, 0, none⟩ = some (.int .u8 0) := cell_of_row W9 _ 0 _ _ _ hf9
      have d1 : W9.cell? ⟨w.heap.size + 1, 1, none⟩ = some (.string ⟨#[]⟩) := cell_of_row W9 _ 1 _ _ _ hf9
      have z0 := frozen_of_row W9 _ 0 _ _ hf9
      have z1 := frozen_of_row W9 _ 1 _ _ hf9
      have CV : (convert 46 9 (.slice A9 n9 c9)).run Tryz.prog W9 = .ok (.string (strb (encs [t, x]))) W9 := run_str (Rd.own ho9) (rd_none (Rd.own ho9))
      have HFF := Lib_hid (HFIN.out _ _ HS9.out (below_set2 (g := w.heap.size + 1) (u := .int .u8 4) (v := .string (strb (encs [t, x]))) hbw (by omega)))
      have HB2 := Lib_hid (set2_block (x := .int .u8 4) (y := .string (strb (encs [t, x]))) hf9)
      clear HFIN HF hb9 ho9 hx9 hf9 hbw HS9
      generalize strb (encs [t, x]) = stv at *
      go_wp2
      exact dput_ret HB2.out HFF.out _ rfl rfl
    · have PTK := PT.out w3 ((HF.out w3 hb3).2.2)
      have HSS : Hid (encs [t, pp.length] ++ pp ++ encs [en] ++ es.flatMap En.stand = ra.stand) := Lib_hid (HST.out.symm)
      obtain ⟨hx3, -, -⟩ := HF.out w3 hb3
      obtain ⟨c0, c1, c2, c3, c4, c5, c6, c7, c8, c9, c10⟩ := rec_cells hx3
      clear hx3 HST PT
      go_wp2_with fail
      refine PTK.mono ?_
      rintro e w4 ⟨A4, c4', rfl, ho4, hb4⟩
      have hs4 := hb4.size
      have hb4' := hb3.trans (hb4.mono hs3)
      have hpl : pp.length ≤ 992 := HPL.out
      have NK := NM.out [t, pp.length] #[.int .u64 (t : Int), .int .u64 (pp.length : Int)] w4.heap.size 2 w4 rfl rfl rfl (by obtain ⟨a1, a2, a3, a4, a5⟩ := HN.out; intro y hy; simp only [List.mem_cons, List.not_mem_nil, or_false] at hy; rcases hy with rfl | rfl; assumption; omega) (by simp)
      obtain ⟨hx4, -, -⟩ := HF.out w4 hb4'
      clear c0 c1 c2 c3 c4 c5 c6 c7 c8 c9 c10 PTK
      obtain ⟨c0, c1, c2, c3, c4, c5, c6, c7, c8, c9, c10⟩ := rec_cells hx4
      have hwr : IntKind.u64.wrap (pp.length : Int) = (pp.length : Int) := IntWalk.u64_in _ (by omega)
      have hel := encs_le [t, pp.length] (by obtain ⟨a1, a2, a3, a4, a5⟩ := HN.out; intro y hy; simp only [List.mem_cons, List.not_mem_nil, or_false] at hy; rcases hy with rfl | rfl; assumption; omega)
      simp only [List.length_cons, List.length_nil] at hel
      clear hx4
      go_wp2_with fail
      refine NK.mono ?_
      rintro e w5 ⟨A5, c5', rfl, ho5, hb5⟩
      have hs5 := hb5.size
      have hb5' := hb4'.trans (hb5.mono (Nat.le_trans hs3 hs4))
      have ho4b := Rd.own (own_below ho4 hb5 (own_lt ho4))
      have ho5b := own_base (b' := w2.heap.size) ho5 (fun j hj => by have := own_ge ho5 j hj; omega)
      have hm1 : (encs [t, pp.length]).length + pp.length ≤ maxLen := by unfold maxLen; omega
      have hm2 : ((encs [t, pp.length]).length + pp.length) * 1 ≤ 140737488355328 := by omega
      have hen : en ≤ 1000 := hes
      have hwe : IntKind.u64.wrap (en : Int) = (en : Int) := IntWalk.u64_in _ (by omega)
      have HA := Lib_hid (And.intro hel hpl)
      generalize encs [t, pp.length] = st1 at *
      clear NK ho5 ho4 hb5 c0 c1 c2 c3 c4 c5 c6 c7 c8 c9 c10 hwr hel hpl
      go_wp2_with (at_builtin; (refine wpList_app rfl _ _ 46 rfl w2.heap.size 5 i0 (.int .u8 0) 1 1 Tryz.underlying46 hi0 hz0 hz1 hz2 rfl (by decide) (.slice A5 st1.length c5') st1.length _ rfl ho5b _ A4 _ c4' _ rfl ho4b (bs_one _) hm1 hm2 hb5'.size ?_); intro v' w6 hown' hst; rw [← bs_append] at hown'; obtain ⟨A6, c6', rfl, _⟩ := own_form hown'; have hb6 := hb5'.trans (hst.below hb5'.size fun g hg => own_ge ho5b g hg); obtain ⟨hx6, -, -⟩ := HF.out w6 hb6; obtain ⟨c0, c1, c2, c3, c4, c5, c6, c7, c8, c9, c10⟩ := rec_cells hx6; clear hx6 hst ho5b ho4b hm1 hm2 hb5')
      have hs6 := hb6.size
      have NK := NM.out [en] #[.int .u64 (en : Int)] w6.heap.size 1 w6 rfl rfl rfl (by intro y hy; simp only [List.mem_cons, List.not_mem_nil, or_false] at hy; subst hy; omega) (by simp)
      have hel2 := encs_le [en] (by intro y hy; simp only [List.mem_cons, List.not_mem_nil, or_false] at hy; subst hy; omega)
      simp only [List.length_cons, List.length_nil] at hel2
      refine NK.mono ?_
      rintro e w7 ⟨A7, c7', rfl, ho7, hb7⟩
      have hb7' := hb6.trans (hb7.mono hs6)
      have hown7 := own_below hown' hb7 (own_lt hown')
      have ho7b := Rd.own ho7
      have HA2 := HA.out
      have hm1 : st1.length + pp.length + (encs [en]).length ≤ maxLen := by unfold maxLen; omega
      have hm2 : (st1.length + pp.length + (encs [en]).length) * 1 ≤ 140737488355328 := by omega
      have HA3 : Hid ((encs [en]).length ≤ 10) := hel2
      generalize encs [en] = st2 at *
      clear NK ho7 hb7 hown' hb6 c0 c1 c2 c3 c4 c5 c6 c7 c8 c9 c10 hwe hel2 HA2
      go_wp2_with (at_builtin; (refine wpList_app rfl _ _ 46 rfl w2.heap.size 5 i0 (.int .u8 0) 1 1 Tryz.underlying46 hi0 hz0 hz1 hz2 rfl (by decide) (.slice A6 (st1.length + pp.length) c6') (st1.length + pp.length) _ rfl hown7 _ A7 _ c7' _ rfl ho7b (bs_one _) hm1 hm2 hb7'.size ?_); intro v' w8 hown8 hst8; rw [← bs_append] at hown8; obtain ⟨A8, c8', rfl, _⟩ := own_form hown8)
      have hb8 := hb7'.trans (hst8.below hb7'.size fun g hg => own_ge hown7 g hg)
      obtain ⟨pre, hpre⟩ : ∃ pre, pre = st1 ++ pp ++ st2 := ⟨_, rfl⟩
      rw [← hpre] at hown8
      have HLP : Hid (pre.length ≤ 1100 ∧ st1.length + pp.length + st2.length = pre.length) := by
        unfold Hid
        have := HA.out
        have := HA3.out
        rw [hpre, List.length_append, List.length_append]
        omega
      have HSS2 : Hid (pre ++ es.flatMap En.stand = ra.stand) := Lib_hid (by rw [hpre]; exact HSS.out)
      rw [HLP.out.2] at hown8 ⊢
      clear hst8 hown7 ho7b hm1 hm2 hb7' HSS HA HA3 hpre
      go_loopw [4, 6] (fun v z wr => ∃ (i m c' : Nat) (A' : Option Addr), v = .slice A' m c' ∧ z = .int .i64 i ∧ i ≤ en ∧ Hid (m = (pre ++ esS es i).length) ∧ wr.ownsRow w2.heap.size 5 1 (.slice A' m c') m (bs (pre ++ esS es i)) ∧ Below w2.heap.size w2 wr) (fun _ z _ => en - (intOf z).toNat)
      case atStart => exact ⟨0, _, c8', A8, rfl, rfl, Nat.zero_le _, Lib_hid (by rw [HEF.out.2, List.append_nil]), by rw [HEF.out.2, List.append_nil]; exact hown8, hb8⟩
      case round =>
        clear hown8 hb8
        obtain ⟨i, m, c', A', rfl, rfl, hi1, hm, hown, hbw⟩ := hrel
        obtain ⟨hxr, -, hbr⟩ := HF.out wr hbw
        obtain ⟨c0, c1, c2, c3, c4, c5, c6, c7, c8, c9, c10⟩ := rec_cells hxr
        clear hxr
        by_cases hlt : i < en
        · obtain ⟨b, off, e, rfl, hbh, he, d0, d1, d2, d3⟩ := en_nth (show Rd wr hi 4 Ae es.length (enCells es) from by rw [← HEN.out]; exact HR.out wr hbr) (show i < es.length by rw [← HEN.out]; exact hlt)
          have hokE := HOK.out e (List.mem_of_getElem? he)
          have HSN : Hid (esS es (i + 1) = esS es i ++ (encs [e.x, e.w, e.n] ++ [if e.m then 1 else 0])) := esS_snoc he
          have hmm : m ≤ 40000 := by have := hm.out; rw [List.length_append] at this; have := HES.out i; have := HLP.out.1; omega
          have hbE := below_new wr (.cells #[.int .u64 (e.x : Int), .int .u64 (e.w : Int), .int .u64 (e.n : Int), .bool e.m] 88)
          have hpE := heap_alloc_new wr (.cells #[.int .u64 (e.x : Int), .int .u64 (e.w : Int), .int .u64 (e.n : Int), .bool e.m] 88)
          have hownE := own_below hown hbE (own_lt hown)
          have hbwE := hbw.trans (hbE.mono hbw.size)
          have HDJ : Hid (∀ k, (Value.slice A' m c').ownBlock = some k → k < wr.heap.size) := own_lt hown
          obtain ⟨ex, ew, en'⟩ := hokE
          clear hown hbr he hbE
          go_upto_region 13 with (fail)
          generalize wr.alloc (.cells #[.int .u64 (e.x : Int), .int .u64 (e.w : Int), .int .u64 (e.n : Int), .bool e.m] 88) = wE at *
          have q0 : wE.cell? ⟨wr.heap.size, 0, none⟩ = some (.int .u64 (e.x : Int)) := cell_of_row wE _ 0 _ _ _ hpE
          have q1 : wE.cell? ⟨wr.heap.size, 1, none⟩ = some (.int .u64 (e.w : Int)) := cell_of_row wE _ 1 _ _ _ hpE
          have q2 : wE.cell? ⟨wr.heap.size, 2, none⟩ = some (.int .u64 (e.n : Int)) := cell_of_row wE _ 2 _ _ _ hpE
          have NK := NM.out [e.x, e.w, e.n] #[.int .u64 (e.x : Int), .int .u64 (e.w : Int), .int .u64 (e.n : Int)] wE.heap.size 3 wE rfl rfl rfl (by intro y hy; simp only [List.mem_cons, List.not_mem_nil, or_false] at hy; rcases hy with rfl | rfl | rfl <;> assumption) (by simp)
          have hel := encs_le [e.x, e.w, e.n] (by intro y hy; simp only [List.mem_cons, List.not_mem_nil, or_false] at hy; rcases hy with rfl | rfl | rfl <;> assumption)
          simp only [List.length_cons, List.length_nil] at hel
          have hsE := lt_of_block hpE
          have hswr := hbw.size
          clear c0 c1 c2 c3 c4 c5 c6 c7 c8 c9 c10 d0 d1 d2 d3 hbw
          go_wp2_with fail
          refine NK.mono ?_
          rintro _ w3' ⟨A3, c3', rfl, ho3, hb3'⟩
          have hp3 := (hb3'.block _ hsE).trans hpE
          have hown3 := own_below hownE hb3' (own_lt hownE)
          have hbw3 := hbwE.trans (hb3'.mono hbwE.size)
          have ho3b := Rd.own ho3
          have hlt3 : wr.heap.size < w3'.heap.size := lt_of_block hp3
          have HEL : Hid ((encs [e.x, e.w, e.n]).length ≤ 30) := hel
          generalize encs [e.x, e.w, e.n] = st3 at *
          have hm1 : m + st3.length ≤ maxLen := by unfold maxLen; omega
          have hm2 : (m + st3.length) * 1 ≤ 140737488355328 := by omega
          clear NK ho3 hb3' hownE hpE q0 q1 q2 hbwE
          go_upto_region 14 with (at_builtin; (refine wpList_app rfl _ _ 46 rfl w2.heap.size 5 i0 (.int .u8 0) 1 1 Tryz.underlying46 hi0 hz0 hz1 hz2 rfl (by decide) (.slice A' m c') m _ rfl hown3 _ A3 _ c3' _ rfl ho3b (bs_one _) hm1 hm2 hbw3.size ?_); intro v' w4' hown4 hst4; rw [← bs_append] at hown4; obtain ⟨A4', c4', rfl, _⟩ := own_form hown4)
          have hp4 := (hst4.grow.block wr.heap.size hlt3 (fun hh => by have := HDJ.out _ hh.symm; omega)).trans hp3
          have hbw4 := hbw3.trans (hst4.below hbw3.size fun g hg => own_ge hown3 g hg)
          have q3 : w4'.cell? ⟨wr.heap.size, 3, none⟩ = some (.bool e.m) := cell_of_row w4' _ 3 _ _ _ hp4
          have hs4' := lt_of_block hp4
          clear hst4 hp4 hp3 hown3 ho3b hm1 hm2 hbw3
          obtain ⟨m4, hm4⟩ : ∃ m4, m4 = m + st3.length := ⟨_, rfl⟩
          have HM4 : Hid (m4 = (pre ++ esS es i ++ st3).length ∧ m4 ≤ 50000) := by
            unfold Hid
            rw [List.length_append, ← hm.out]
            have := HEL.out
            omega
          rw [← hm4] at hown4 ⊢
          clear hm4
          have hm1 : m4 + 1 ≤ maxLen := by have := HM4.out.2; unfold maxLen; omega
          have hm2 : (m4 + 1) * 1 ≤ 140737488355328 := by have := HM4.out.2; omega
          cases hme : e.m with
          | true =>
            rw [hme] at q3
            have HSE : Hid (esS es (i + 1) = esS es i ++ (st3 ++ [1])) := by rw [hme] at HSN; exact HSN
            have hbn := below_new w4' (.cells #[.int .u8 1] 5)
            have hown5 := own_below hown4 hbn (own_lt hown4)
            have hbw5 := hbw4.trans (hbn.mono hbw4.size)
            have hrd5 := Rd.newi w4' 1 1 rfl 5
            clear hbn hown4 hme HSN
            go_wp2_with (at_builtin; (refine wpList_app rfl _ _ 46 rfl w2.heap.size 5 i0 (.int .u8 0) 1 1 Tryz.underlying46 hi0 hz0 hz1 hz2 rfl (by decide) (.slice A4' m4 c4') m4 _ rfl hown5 _ _ 1 1 _ rfl hrd5 (bs_one _) hm1 hm2 hbw5.size ?_); intro v' w6' hown6 hst6; rw [← bs_append] at hown6; obtain ⟨A6', c6', rfl, _⟩ := own_form hown6)
            have hbw6 := hbw5.trans (hst6.below hbw5.size fun g hg => own_ge hown5 g hg)
            have HM6 : Hid (m4 + 1 = (pre ++ esS es (i + 1)).length) := by
              unfold Hid
              rw [HSE.out, HM4.out.1]
              simp [List.length_append, Nat.add_assoc]
            have hown7 : w6'.ownsRow w2.heap.size 5 1 (.slice A6' (m4 + 1) c6') (m4 + 1) (bs (pre ++ esS es (i + 1))) := by
              rw [HSE.out, ← List.append_assoc, ← List.append_assoc]; exact hown6
            clear hst6 hown6 hown5 hrd5 hm1 hm2 q3 hbw5
            go_roundw
            case rel => exact ⟨i + 1, m4 + 1, c6', A6', rfl, by go_num, by omega, HM6, hown7, hbw6⟩
            case measure => simp [intOf]; omega
          | false =>
            rw [hme] at q3
            have HSE : Hid (esS es (i + 1) = esS es i ++ (st3 ++ [0])) := by rw [hme] at HSN; exact HSN
            have hbn := below_new w4' (.cells #[.int .u8 0] 5)
            have hown5 := own_below hown4 hbn (own_lt hown4)
            have hbw5 := hbw4.trans (hbn.mono hbw4.size)
            have hrd5 := Rd.newi w4' 0 0 rfl 5
            clear hbn hown4 hme HSN
            go_wp2_with (at_builtin; (refine wpList_app rfl _ _ 46 rfl w2.heap.size 5 i0 (.int .u8 0) 1 1 Tryz.underlying46 hi0 hz0 hz1 hz2 rfl (by decide) (.slice A4' m4 c4') m4 _ rfl hown5 _ _ 1 1 _ rfl hrd5 (bs_one _) hm1 hm2 hbw5.size ?_); intro v' w6' hown6 hst6; rw [← bs_append] at hown6; obtain ⟨A6', c6', rfl, _⟩ := own_form hown6)
            have hbw6 := hbw5.trans (hst6.below hbw5.size fun g hg => own_ge hown5 g hg)
            have HM6 : Hid (m4 + 1 = (pre ++ esS es (i + 1)).length) := by
              unfold Hid
              rw [HSE.out, HM4.out.1]
              simp [List.length_append, Nat.add_assoc]
            have hown7 : w6'.ownsRow w2.heap.size 5 1 (.slice A6' (m4 + 1) c6') (m4 + 1) (bs (pre ++ esS es (i + 1))) := by
              rw [HSE.out, ← List.append_assoc, ← List.append_assoc]; exact hown6
            clear hst6 hown6 hown5 hrd5 hm1 hm2 q3 hbw5
            go_roundw
            case rel => exact ⟨i + 1, m4 + 1, c6', A6', rfl, by go_num, by omega, HM6, hown7, hbw6⟩
            case measure => simp [intOf]; omega
        · obtain rfl : i = en := by omega
          have HEE : Hid (pre ++ esS es i = pre ++ es.flatMap En.stand) := Lib_hid (by rw [HEF.out.1])
          rw [HEE.out] at hown
          obtain ⟨W9, hW9⟩ : ∃ W9, W9 = wr := ⟨_, rfl⟩
          obtain ⟨A9, hA9⟩ : ∃ A9, A9 = A' := ⟨_, rfl⟩
          obtain ⟨n9, hn9⟩ : ∃ n9, n9 = m := ⟨_, rfl⟩
          subst hW9 hA9 hn9
          have ho9 := hown
          have hb9 := hbw
          have HS9 : Hid (pre ++ es.flatMap En.stand = ra.stand) := HSS2
          clear hm hown hbw hbr HSS2 c0 c1 c2 c3 c4 c5 c6 c7 c8 c9
          have hc10 := c10
          clear c10
          have c10 := hc10
          clear hc10
          obtain ⟨c9, hc9⟩ : ∃ c9, c9 = c' := ⟨_, rfl⟩
          subst hc9
          obtain ⟨hx9, hf9, hbw⟩ := HF.out W9 hb9
          have g0 : W9.cell? ⟨w.heap.size, 0, none⟩ = some (.int .i64 5) := cell_of_row W9 _ 0 _ _ _ hx9
          have d0 : W9.cell? ⟨w.heap.size + 1, 0, none⟩ = some (.int .u8 0) := cell_of_row W9 _ 0 _ _ _ hf9
          have d1 : W9.cell? ⟨w.heap.size + 1, 1, none⟩ = some (.string ⟨#[]⟩) := cell_of_row W9 _ 1 _ _ _ hf9
          have z0 := frozen_of_row W9 _ 0 _ _ hf9
          have z1 := frozen_of_row W9 _ 1 _ _ hf9
          have CV : (convert 46 9 (.slice A9 n9 c9)).run Tryz.prog W9 = .ok (.string (strb (pre ++ es.flatMap En.stand))) W9 := run_str (Rd.own ho9) (rd_none (Rd.own ho9))
          have HFF := Lib_hid (HFIN.out _ _ HS9.out (below_set2 (g := w.heap.size + 1) (u := .int .u8 5) (v := .string (strb (pre ++ es.flatMap En.stand))) hbw (by omega)))
          have HB2 := Lib_hid (set2_block (x := .int .u8 5) (y := .string (strb (pre ++ es.flatMap En.stand))) hf9)
          clear HFIN HF hb9 ho9 hx9 hf9 hbw HS9
          generalize strb (pre ++ es.flatMap En.stand) = stv at *
          go_wp2
          exact dput_ret HB2.out HFF.out _ rfl rfl
    · have NK := NM.out [t] #[.int .u64 (t : Int)] w3.heap.size 1 w3 rfl rfl rfl (by obtain ⟨a1, a2, a3, a4, a5⟩ := HN.out; intro y hy; simp only [List.mem_cons, List.not_mem_nil, or_false] at hy; subst hy; assumption) (by simp)
      have HSS : Hid (encs [t] = ra.stand) := Lib_hid (HST.out.symm)
      obtain ⟨hx3, -, -⟩ := HF.out w3 hb3
      obtain ⟨c0, c1, c2, c3, c4, c5, c6, c7, c8, c9, c10⟩ := rec_cells hx3
      clear hx3 NM HN HST PT HR HOK HPL HES HEF HEN
      go_wp2_with fail
      refine NK.mono ?_
      rintro e W9 ⟨A9, c9', rfl, ho9, hb9'⟩
      have hb9 := hb3.trans (hb9'.mono hs3)
      have HS9 : Hid (encs [t] = ra.stand) := HSS
      clear NK hb9' HSS c0 c1 c2 c3 c4 c5 c6 c7 c8 c9 c10
      obtain ⟨c9, hc9⟩ : ∃ c9, c9 = c9' := ⟨_, rfl⟩
      rw [← hc9] at ho9 ⊢
      clear hc9
      obtain ⟨n9, hn9⟩ : ∃ n9, n9 = (encs [t]).length := ⟨_, rfl⟩
      rw [← hn9] at ho9 ⊢
      clear hn9
      obtain ⟨hx9, hf9, hbw⟩ := HF.out W9 hb9
      have g0 : W9.cell? ⟨w.heap.size, 0, none⟩ = some (.int .i64 6) := cell_of_row W9 _ 0 _ _ _ hx9
      have d0 : W9.cell? ⟨w.heap.size + 1, 0, none⟩ = some (.int .u8 0) := cell_of_row W9 _ 0 _ _ _ hf9
      have d1 : W9.cell? ⟨w.heap.size + 1, 1, none⟩ = some (.string ⟨#[]⟩) := cell_of_row W9 _ 1 _ _ _ hf9
      have z0 := frozen_of_row W9 _ 0 _ _ hf9
      have z1 := frozen_of_row W9 _ 1 _ _ hf9
      have CV : (convert 46 9 (.slice A9 n9 c9)).run Tryz.prog W9 = .ok (.string (strb (encs [t]))) W9 := run_str (Rd.own ho9) (rd_none (Rd.own ho9))
      have HFF := Lib_hid (HFIN.out _ _ HS9.out (below_set2 (g := w.heap.size + 1) (u := .int .u8 6) (v := .string (strb (encs [t]))) hbw (by omega)))
      have HB2 := Lib_hid (set2_block (x := .int .u8 6) (y := .string (strb (encs [t]))) hf9)
      clear HFIN HF hb9 ho9 hx9 hf9 hbw HS9
      generalize strb (encs [t]) = stv at *
      go_wp2
      exact dput_ret HB2.out HFF.out _ rfl rfl
    · have NK := NM.out [t] #[.int .u64 (t : Int)] w3.heap.size 1 w3 rfl rfl rfl (by obtain ⟨a1, a2, a3, a4, a5⟩ := HN.out; intro y hy; simp only [List.mem_cons, List.not_mem_nil, or_false] at hy; subst hy; assumption) (by simp)
      have HSS : Hid (encs [t] = ra.stand) := Lib_hid (HST.out.symm)
      obtain ⟨hx3, -, -⟩ := HF.out w3 hb3
      obtain ⟨c0, c1, c2, c3, c4, c5, c6, c7, c8, c9, c10⟩ := rec_cells hx3
      clear hx3 NM HN HST PT HR HOK HPL HES HEF HEN
      go_wp2_with fail
      refine NK.mono ?_
      rintro e W9 ⟨A9, c9', rfl, ho9, hb9'⟩
      have hb9 := hb3.trans (hb9'.mono hs3)
      have HS9 : Hid (encs [t] = ra.stand) := HSS
      clear NK hb9' HSS c0 c1 c2 c3 c4 c5 c6 c7 c8 c9 c10
      obtain ⟨c9, hc9⟩ : ∃ c9, c9 = c9' := ⟨_, rfl⟩
      rw [← hc9] at ho9 ⊢
      clear hc9
      obtain ⟨n9, hn9⟩ : ∃ n9, n9 = (encs [t]).length := ⟨_, rfl⟩
      rw [← hn9] at ho9 ⊢
      clear hn9
      obtain ⟨hx9, hf9, hbw⟩ := HF.out W9 hb9
      have g0 : W9.cell? ⟨w.heap.size, 0, none⟩ = some (.int .i64 7) := cell_of_row W9 _ 0 _ _ _ hx9
      have d0 : W9.cell? ⟨w.heap.size + 1, 0, none⟩ = some (.int .u8 0) := cell_of_row W9 _ 0 _ _ _ hf9
      have d1 : W9.cell? ⟨w.heap.size + 1, 1, none⟩ = some (.string ⟨#[]⟩) := cell_of_row W9 _ 1 _ _ _ hf9
      have z0 := frozen_of_row W9 _ 0 _ _ hf9
      have z1 := frozen_of_row W9 _ 1 _ _ hf9
      have CV : (convert 46 9 (.slice A9 n9 c9)).run Tryz.prog W9 = .ok (.string (strb (encs [t]))) W9 := run_str (Rd.own ho9) (rd_none (Rd.own ho9))
      have HFF := Lib_hid (HFIN.out _ _ HS9.out (below_set2 (g := w.heap.size + 1) (u := .int .u8 7) (v := .string (strb (encs [t]))) hbw (by omega)))
      have HB2 := Lib_hid (set2_block (x := .int .u8 7) (y := .string (strb (encs [t]))) hf9)
      clear HFIN HF hb9 ho9 hx9 hf9 hbw HS9
      generalize strb (encs [t]) = stv at *
      go_wp2
      exact dput_ret HB2.out HFF.out _ rfl rfl
end Go.Proofs.YtiiiklenhmhccaaGreatDoor

namespace Go.Proofs.YtiiiklenhmhccaaGreatDoor
open Go Go.RowKit
set_option linter.unusedVariables false
def EnvM (B : Nat) (w : World) : Prop := Env B w ∧ 0 < B ∧ ∃ m : Int, w.cell? ⟨0, 0, none⟩ = some (.int .i64 m)
theorem EnvM.under {B B' : Nat} {w w' : World} (h : EnvM B w) (hb : Below B' w w') (hB : B ≤ B') : EnvM B w' :=
  ⟨h.1.under hb hB, h.2.1, by obtain ⟨m, hm⟩ := h.2.2; exact ⟨m, (hb.cell (p := ⟨0, 0, none⟩) (by have := h.2.1; show 0 < B'; omega)).trans hm⟩⟩
theorem decimal_any (B u : Nat) (hu : u < 18446744073709551616) (w : World) (hE : Env B w) : Calls Tryz.prog 60 #[.int .u64 (u : Int)] w fun e w' => e = .returned (.string ⟨(Lib.decDigits u).toArray⟩) ∧ Below w.heap.size w w' := by
  have F := Lib_hid (fmt_any B u hu w hE)
  generalize Lib.decDigits u = d at *
  clear hE
  go_enter Tryz.func60, Tryz.ntmps60
  go_wp2_with fail
  refine F.out.mono ?_
  rintro e w1 ⟨rfl, hb⟩
  go_wp2
  go_ret
  exact ⟨rfl, hb⟩
theorem joined_any (b n c : Nat) (E : TypeId) (A : Option Addr) (xs : List (List UInt8)) (sep : List UInt8) (w : World) (h : w.ownsRow b E 1 (.slice A n c) n (strs xs)) (hx : n ≤ 1000000) (hl : (Lib.join xs sep).length ≤ 1000000) :
    Calls Tryz.prog 44 #[.string ⟨sep.toArray⟩, .slice A n c] w fun e w' => e = .returned (.string ⟨(Lib.join xs sep).toArray⟩) ∧ Below w.heap.size w w' := by
  have F := Lib_hid (join_any b n c E A xs sep w h hx hl)
  generalize Lib.join xs sep = d at *
  clear h
  go_enter Tryz.func44, Tryz.ntmps44
  go_wp2_with fail
  refine F.out.mono ?_
  rintro e w1 ⟨rfl, hb⟩
  go_wp2
  go_ret
  exact ⟨rfl, hb⟩
def WdC (s : List UInt8) (bad : Bool) : Obj := .cells #[.string ⟨s.toArray⟩, .bool bad] 135 (0, 0)
theorem restW_len (l : List UInt8) : (restW l).length ≤ l.length := by
  unfold restW Lib.trimPrefix
  split
  · simp
  · exact Nat.le_refl _
theorem wordW_len (l : List UInt8) : (wordW l).length ≤ (restW l).length := (ahead_len 32 (restW l)).1
set_option maxRecDepth 100000 in
set_option maxHeartbeats 1600000 in
theorem next_any (B g : Nat) (s : List UInt8) (bad : Bool) (w : World) (hg : w.heap[g]? = some (WdC s bad)) (hE : EnvM B w) (hl : s.length ≤ 1000000) :
    Calls Tryz.prog 111 #[.pointer (some ⟨g, 0, none⟩)] w fun e w' => e = .returned (.string ⟨(wordW s).toArray⟩) ∧ w'.heap[g]? = some (WdC (leftW s) bad) ∧ w.grownBy w' (some g) := by
  obtain ⟨m, hm⟩ := hE.2.2
  have T := Lib_hid (Tryz.strings_TrimPrefix ⟨s.toArray⟩ ⟨#[32]⟩ w)
  have hrl := restW_len s
  have C := Lib_hid (Tryz.strings_Cut ⟨(restW s).toArray⟩ ⟨#[32]⟩ m w (by show (restW s).toArray.size < _; simp; omega) hm)
  have e1 : (Lib.cut (restW s) [32]).1 = wordW s := (cut_one 32 (restW s)).1
  have hT : (⟨(Lib.trimPrefix (⟨s.toArray⟩ : ByteArray).data.toList (⟨#[32]⟩ : ByteArray).data.toList).toArray⟩ : ByteArray) = ⟨(restW s).toArray⟩ := rfl
  have hC : (⟨(Lib.cut (⟨(restW s).toArray⟩ : ByteArray).data.toList (⟨#[32]⟩ : ByteArray).data.toList).1.toArray⟩ : ByteArray) = ⟨(wordW s).toArray⟩ := by rw [← e1]
  have hwl := wordW_len s
  have hsl : ∀ W, (Instr.slice 9 (.string ⟨(restW s).toArray⟩) (some (.int .i64 ((wordW s).length : Int))) none none).run Tryz.prog W = .ok (.string ⟨(leftW s).toArray⟩) W := fun W => sl_drop (restW s) (wordW s).length hwl W
  have hsz : (⟨(wordW s).toArray⟩ : ByteArray).size = (wordW s).length := by simp [ByteArray.size]
  have c0 := cell_of_row _ _ 0 _ _ _ hg
  have z0 := frozen_of_row _ _ 0 _ _ hg
  have HG := Lib_hid hg
  rw [hT] at T
  rw [hC] at C
  generalize (Lib.cut (⟨(restW s).toArray⟩ : ByteArray).data.toList (⟨#[32]⟩ : ByteArray).data.toList).2.1.toArray = c1 at *
  generalize (Lib.cut (⟨(restW s).toArray⟩ : ByteArray).data.toList (⟨#[32]⟩ : ByteArray).data.toList).2.2 = c2 at *
  generalize (⟨(restW s).toArray⟩ : ByteArray) = rs at *
  have FIN : Hid (∀ q, ((w.drewN q).setCell ⟨g, 0, none⟩ (.string ⟨(leftW s).toArray⟩)).heap[g]? = some (WdC (leftW s) bad) ∧ w.grownBy ((w.drewN q).setCell ⟨g, 0, none⟩ (.string ⟨(leftW s).toArray⟩)) (some g)) := fun q => by
    refine ⟨?_, ⟨rfl, rfl, rfl, by simp, fun k _ hne => heap_setCell_other (w.drewN q) ⟨g, 0, none⟩ k _ (fun e => hne (by rw [e]))⟩⟩
    rw [heap_setCell_same (w.drewN q) g 0 _ _ _ HG.out]
    rfl
  generalize (⟨(leftW s).toArray⟩ : ByteArray) = lf at *
  generalize (wordW s).length = n at *
  generalize (⟨(wordW s).toArray⟩ : ByteArray) = wd at *
  clear hE hm hg hT hC e1 hrl hwl
  go_enter Tryz.func111, Tryz.ntmps111
  go_wp2_with fail
  refine T.out.mono ?_
  rintro e w1 ⟨rfl, rfl⟩
  go_wp2_with fail
  refine C.out.mono ?_
  rintro e w2 ⟨rfl, q, rfl⟩
  have F := Lib_hid (FIN.out q)
  clear T C FIN
  go_wp2
  go_ret
  exact ⟨rfl, F.out.1, F.out.2⟩
end Go.Proofs.YtiiiklenhmhccaaGreatDoor
