/-
  Layer 4: the program's reader.node.
  Layer 4: the program's Read.
  Layer 4: what is told is read as it was, plainly.
-/
import Derived.Test.YtbcadnkdehknoaaGreatDoorZlTdq
import Derived.Test.YtbcadnkdehknoaaGreatDoorZlTli
import Derived.Test.YtbcadnkdehknoaaGreatDoorTpb
import Derived.Test.YtbcadnkdehknoaaGreatDoorZlTvl

namespace Go.Proofs.YtbcadnkdehknoaaGreatDoor
open Go Go.RowKit
set_option linter.unusedVariables false

theorem grown_aside {w W : World} {g p i : Nat} (h : w.grownBy W (some g)) (hp : w.heap.size ≤ p) (v : Value) : w.grownBy (W.setCell ⟨p, i, none⟩ v) (some g) :=
  ⟨h.os, h.tape, h.output, by have := h.size; simpa [World.setCell] using this, fun j hj hne => (Below.heap_setCell W ⟨p, i, none⟩ v j (by show j ≠ p; omega)).trans (h.block j hj hne)⟩
theorem grown_put4 {w W : World} {g p : Nat} (h : w.grownBy W (some g)) (hp : w.heap.size ≤ p) (a b c d : Value) : w.grownBy (put4 W p a b c d) (some g) :=
  grown_aside (grown_aside (grown_aside (grown_aside h hp a) hp b) hp c) hp d

theorem node_ret {Q : Ending → World → Prop} {W : World} {h0 : Nat} {x0 x1 x2 x3 : Value} (HR2 : W.heap[h0]? = some (.cells #[x0, x1, x2, x3] 27 (0, 0))) (HF2 : Q (.returned (.agg #[x0, x1, x2, x3])) W)
    (tmps : Array Value) (h4 : tmps.getD 4 undef = .pointer (some ⟨h0, 0, none⟩)) : bodyPost Tryz.prog Tryz.f202 Q .ret { tmps := tmps, defers := [] } W := by
  rw [Array.getD_eq_getD_getElem?] at h4
  have d0 := cell_of_row W _ 0 _ _ _ HR2
  have d1 := cell_of_row W _ 1 _ _ _ HR2
  have d2 := cell_of_row W _ 2 _ _ _ HR2
  have d3 := cell_of_row W _ 3 _ _ _ HR2
  simp at d0 d1 d2 d3
  exact bodyPost_ret (v := .agg #[x0, x1, x2, x3]) (by simp [results, Tryz.results202, go_sem, h4, d0, d1, d2, d3]) rfl HF2

set_option maxRecDepth 100000 in
set_option maxHeartbeats 6400000 in
theorem pnode_any (d : Nat) : d ≤ 8 → NodeOK d := by
  induction d using Nat.strongRecOn with
  | _ d IHd =>
  intro hd m s bad B g w hg hE hB hl hm hm2
  have hgl := (Array.getElem?_eq_some_iff.1 hg).1
  obtain ⟨w1, hw1⟩ : ∃ w1, w1 = w.alloc (.cells #[.int .i64 0, .int .u64 0, .int .u64 0, .slice none 0 0] 27) := ⟨_, rfl⟩
  have q1 := heap_alloc_new w (.cells #[.int .i64 0, .int .u64 0, .int .u64 0, .slice none 0 0] 27)
  have b1 := below_new w (.cells #[.int .i64 0, .int .u64 0, .int .u64 0, .slice none 0 0] 27)
  have s1 : w1.heap.size = w.heap.size + 1 := by rw [hw1]; simp
  rw [← hw1] at q1 b1
  have hg1 := (b1.block g hgl).trans hg
  have KR := pkind_any m s bad g w1 hg1
  have hgr1 := grow_below b1 (some g)
  obtain ⟨kd, r, hks⟩ : ∃ kd r, kindS s = (kd, r) := ⟨_, _, rfl⟩
  have hkl := kindS_le s
  rw [hks] at hkl
  have HKS := Lib_hid hks
  have HE : Hid (∀ W, w.grownBy W (some g) → Env B W) := fun W h => hE.keep fun k hk => h.block k (by omega) (fun e => by injection e with e; omega)
  have HIH : Hid (∀ d', d' < d → NodeOK d') := fun d' h => IHd d' h (by omega)
  obtain ⟨dp, hdp⟩ : ∃ dp, dp = 9 - d := ⟨_, rfl⟩
  have HDP := Lib_hid hdp
  have hdp9 : dp ≤ 9 := by omega
  have HBAD : Hid (∀ (W : World) (m' : Nat), W.heap[g]? = some (RdrC (m' : Int) r bad) → W.heap[w.heap.size]? = some (.cells #[.int .i64 0, .int .u64 0, .int .u64 0, .slice none 0 0] 27 (0, 0)) → w.grownBy W (some g) → m' ≤ m + 1 → (bad = false → ∀ t q, rdS d s = some (t, q) → 32 < m + t.count) →
      NdEnd d m s bad g w (.returned (.agg #[.int .i64 0, .int .u64 0, .int .u64 0, .slice none 0 0])) (put4 (W.setCell ⟨g, 2, none⟩ (.bool true)) w.heap.size (.int .i64 0) (.int .u64 0) (.int .u64 0) (.slice none 0 0)) ∧
      (put4 (W.setCell ⟨g, 2, none⟩ (.bool true)) w.heap.size (.int .i64 0) (.int .u64 0) (.int .u64 0) (.slice none 0 0)).heap[w.heap.size]? = some (.cells #[.int .i64 0, .int .u64 0, .int .u64 0, .slice none 0 0] 27 (0, 0))) := by
    intro W m' h1 h2 h3 h4 h5
    have hbx : (W.setCell ⟨g, 2, none⟩ (.bool true)).heap[g]? = some (RdrC (m' : Int) r true) := Joins.block_setCell (i := 2) h1 _
    have hz : (W.setCell ⟨g, 2, none⟩ (.bool true)).heap[w.heap.size]? = _ := (Below.heap_setCell W ⟨g, 2, none⟩ _ w.heap.size (by show w.heap.size ≠ g; omega)).trans h2
    refine ⟨⟨0, 0, 0, 0, 0, m', none, r, true, rfl, grown_put4 (h3.trans (grow_set W g 2 _)) (Nat.le_refl _) _ _ _ _, (put4_else _ (by omega) _ _ _ _).trans hbx, NdR.none0 hkl.2.1 h4 hm h5⟩, put4_row hz _ _ _ _⟩
  have hgN : (∀ t q, kd = 0 → rdS d s = some (t, q) → 32 < m + t.count) := by
    intro t q h0 h
    cases d with
    | zero => cases h
    | succ d =>
      have : rdS (d + 1) s = none := by
        show (if (kindS s).1 = 0 then none else _) = _
        rw [hks, if_pos h0]
      rw [this] at h; cases h
  have HGN := Lib_hid hgN
  rw [← hdp]
  subst hw1
  clear hg1 b1 hE IHd hks hdp hgN
  go_enter Tryz.func202, Tryz.ntmps202
  go_wp2_with fail
  refine KR.mono ?_
  rintro e w2 ⟨rfl, hgr2, hg2⟩
  rw [HKS.out] at hg2 ⊢
  have hgrA := hgr1.trans hgr2
  have q2 := (hgr2.block w.heap.size (by omega) (fun e => by injection e with e; omega)).trans q1
  have s2 : w.heap.size + 1 ≤ w2.heap.size := by have := hgr2.size; omega
  clear KR q1 hgr1 hgr2 s1
  obtain ⟨w3, hw3⟩ : ∃ w3, w3 = w2.alloc (.cells #[.int .i64 (kd : Int), .int .u64 0, .int .u64 0, .slice none 0 0] 27) := ⟨_, rfl⟩
  have q33 := heap_alloc_new w2 (.cells #[.int .i64 (kd : Int), .int .u64 0, .int .u64 0, .slice none 0 0] 27)
  have b3 := below_new w2 (.cells #[.int .i64 (kd : Int), .int .u64 0, .int .u64 0, .slice none 0 0] 27)
  rw [← hw3] at q33 b3
  have s3 : w3.heap.size = w2.heap.size + 1 := by rw [hw3]; simp
  have KO := kindof_any (kd : Int) w3
  have hg3 := (b3.block g (Array.getElem?_eq_some_iff.1 hg2).1).trans hg2
  have q23 := (b3.block w.heap.size (by omega)).trans q2
  have hgrB := hgrA.trans (grow_below b3 (some g))
  have c0 := cell_of_row w3 _ 0 _ _ _ q33
  simp at c0
  subst hw3
  clear hg2 q2 b3 hgrA
  by_cases hk0 : kd = 0
  · subst hk0
    clear KO
    have KO : Calls Tryz.prog 153 #[.int .i64 0] (w2.alloc (.cells #[.int .i64 0, .int .u64 0, .int .u64 0, .slice none 0 0] 27)) fun e w' => e = .returned (.tuple #[.agg #[.string ⟨#[]⟩, .int .i64 0, .nilFunc, .nilFunc, .nilFunc], .bool false]) ∧ Below (w2.alloc (.cells #[.int .i64 0, .int .u64 0, .int .u64 0, .slice none 0 0] 27)).heap.size (w2.alloc (.cells #[.int .i64 0, .int .u64 0, .int .u64 0, .slice none 0 0] 27)) w' := by
      have := kindof_any 0 (w2.alloc (.cells #[.int .i64 0, .int .u64 0, .int .u64 0, .slice none 0 0] 27))
      rw [show kindAt 0 = .agg #[.string ⟨#[]⟩, .int .i64 0, .nilFunc, .nilFunc, .nilFunc] by simp [kindAt, isKind], show isKind 0 = false by decide] at this
      exact this
    simp only [Int.natCast_zero] at hg3 q23 hgrB q33
    go_wp2_with fail
    refine KO.mono ?_
    rintro e w4 ⟨rfl, hb4⟩
    have hg4 := (hb4.block g (Array.getElem?_eq_some_iff.1 hg3).1).trans hg3
    have q24 := (hb4.block w.heap.size (Array.getElem?_eq_some_iff.1 q23).1).trans q23
    have hgr4 := hgrB.trans (grow_below hb4 (some g))
    have b5 := below_new w4 (.cells #[.string ⟨#[]⟩, .int .i64 0, .nilFunc, .nilFunc, .nilFunc] 195)
    have hg5 := (b5.block g (Array.getElem?_eq_some_iff.1 hg4).1).trans hg4
    have q25 := (b5.block w.heap.size (Array.getElem?_eq_some_iff.1 q24).1).trans q24
    have hgr5 := hgr4.trans (grow_below b5 (some g))
    clear KO hb4 hg3 q23 hgrB q33 c0 hg4 q24 hgr4 b5
    go_upto_region 3 with (fail)
    generalize w4.alloc (.cells #[.string ⟨#[]⟩, .int .i64 0, .nilFunc, .nilFunc, .nilFunc] 195) = w5 at *
    have c2 := cell_of_row w5 _ 2 _ _ _ hg5
    have z2 := frozen_of_row w5 g 2 _ _ hg5
    have hqz : (w5.setCell ⟨g, 2, none⟩ (.bool true)).heap[w.heap.size]? = _ := (Below.heap_setCell w5 ⟨g, 2, none⟩ _ w.heap.size (by show w.heap.size ≠ g; omega)).trans q25
    have e0 := cell_of_row _ _ 0 _ _ _ hqz
    have e1 := cell_of_row _ _ 1 _ _ _ hqz
    have e2 := cell_of_row _ _ 2 _ _ _ hqz
    have e3 := cell_of_row _ _ 3 _ _ _ hqz
    have y0 := frozen_of_row _ w.heap.size 0 _ _ hqz
    have y1 := frozen_of_row _ w.heap.size 1 _ _ hqz
    have y2 := frozen_of_row _ w.heap.size 2 _ _ hqz
    have y3 := frozen_of_row _ w.heap.size 3 _ _ hqz
    simp at c2 e0 e1 e2 e3
    have HX := Lib_hid (HBAD.out w5 m hg5 q25 hgr5 (by omega) (fun _ t q h => HGN.out t q (by trivial) h))
    clear HBAD hg5 q25 hqz
    go_wp2_with fail
    show bodyPost _ _ _ _ _ (put4 (w5.setCell ⟨g, 2, none⟩ (.bool true)) w.heap.size (.int .i64 0) (.int .u64 0) (.int .u64 0) (.slice none 0 0))
    have HX2 := HX.out
    clear HX e0 e1 e2 e3 y0 y1 y2 y3 c2 z2
    generalize put4 (w5.setCell ⟨g, 2, none⟩ (.bool true)) w.heap.size (.int .i64 0) (.int .u64 0) (.int .u64 0) (.slice none 0 0) = W2 at *
    exact node_ret HX2.2 HX2.1 _ rfl
  · have hk : 1 ≤ (kd : Int) ∧ (kd : Int) ≤ 7 := by omega
    have hcn := call_num hk
    have NA := Lib_hid (fun g wx => nums_any (kd : Int) hk g wx)
    rw [kindAt_eq hk, show isKind (kd : Int) = true by unfold isKind; simp; omega] at KO
    have HPN : Hid (partN (kd : Int) = if kd = 5 then 1 else if 6 ≤ kd then 2 else 0) := by
      unfold partN Hid
      have : kd = 1 ∨ kd = 2 ∨ kd = 3 ∨ kd = 4 ∨ kd = 5 ∨ kd = 6 ∨ kd = 7 := by omega
      rcases this with rfl | rfl | rfl | rfl | rfl | rfl | rfl <;> decide
    generalize partN (kd : Int) = pn at *
    generalize wordA (kd : Int) = wd at *
    generalize numF (kd : Int) = f1 at *
    generalize fitF (kd : Int) = f2 at *
    generalize askF (kd : Int) = f3 at *
    have HK := Lib_hid (And.intro hk0 hkl)
    clear hk hk0
    go_wp2_with fail
    refine KO.mono ?_
    rintro e w4 ⟨rfl, hb4⟩
    have hg4 := (hb4.block g (Array.getElem?_eq_some_iff.1 hg3).1).trans hg3
    have q24 := (hb4.block w.heap.size (Array.getElem?_eq_some_iff.1 q23).1).trans q23
    have p4 := (hb4.block w2.heap.size (Array.getElem?_eq_some_iff.1 q33).1).trans q33
    have hgr4 := hgrB.trans (grow_below hb4 (some g))
    have b5 := below_new w4 (.cells #[.string ⟨wd⟩, .int .i64 (pn : Nat), .func (.func f1) #[] #[], .func (.func f2) #[] #[], .func (.func f3) #[] #[]] 195)
    have k5 := heap_alloc_new w4 (.cells #[.string ⟨wd⟩, .int .i64 (pn : Nat), .func (.func f1) #[] #[], .func (.func f2) #[] #[], .func (.func f3) #[] #[]] 195)
    have hg5 := (b5.block g (Array.getElem?_eq_some_iff.1 hg4).1).trans hg4
    have q25 := (b5.block w.heap.size (Array.getElem?_eq_some_iff.1 q24).1).trans q24
    have p5 := (b5.block w2.heap.size (Array.getElem?_eq_some_iff.1 p4).1).trans p4
    have hgr5 := hgr4.trans (grow_below b5 (some g))
    have s4 : w2.heap.size < w4.heap.size := (Array.getElem?_eq_some_iff.1 p4).1
    clear KO hb4 hg3 q23 hgrB q33 c0 hg4 q24 hgr4 b5 p4 s3
    go_upto_region 3 with (fail)
    generalize w4.alloc (.cells #[.string ⟨wd⟩, .int .i64 (pn : Nat), .func (.func f1) #[] #[], .func (.func f2) #[] #[], .func (.func f3) #[] #[]] 195) = w5 at *
    have EN := enter_any g 0 m dp w5 (cell_of_row w5 _ 0 _ _ _ hg5) (frozen_of_row w5 g 0 _ _ hg5) (by omega) (by omega)
    go_wp2_with fail
    refine EN.mono ?_
    rintro e w6 ⟨rfl, hw6⟩
    have hg6 : w6.heap[g]? = some (RdrC ((m + 1 : Nat) : Int) r bad) := by rw [← hw6]; exact Joins.block_setCell (i := 0) hg5 _
    have hgr56 : w5.grownBy w6 (some g) := by rw [← hw6]; exact grow_set w5 g 0 _
    have hk6 : ∀ i o, i ≠ g → w5.heap[i]? = some o → w6.heap[i]? = some o := fun i o hne h => (hgr56.block i (Array.getElem?_eq_some_iff.1 h).1 (fun e => by injection e with e; omega)).trans h
    have q26 := hk6 _ _ (by omega) q25
    have p6 := hk6 _ _ (by omega) p5
    have k6 := hk6 _ _ (by omega) k5
    have hgr6 := hgr5.trans hgr56
    clear EN hw6 hg5 q25 p5 k5 hk6 hgr5 hgr56
    by_cases hen : dp ≤ 8 ∧ m + 1 ≤ 32
    · have hE1 : decide (dp ≤ 8 ∧ m + 1 ≤ 32) = true := by simp [hen]
      rw [hE1]
      clear hE1
      obtain ⟨hd8, hm32⟩ := hen
      obtain ⟨d', rfl⟩ : ∃ d', d = d' + 1 := ⟨d - 1, by have := HDP.out; omega⟩
      have hdp1 : ((9 - d' : Nat) : Int) = (dp : Int) + 1 := by have := HDP.out; omega
      have d2 := cell_of_row w6 _ 2 _ _ _ k6
      simp at d2
      clear HBAD HGN
      go_wp2_with fail
      refine (NA.out w2.heap.size w6).mono ?_
      rintro e w7 ⟨AN, rfl, hb7, hptr⟩
      have s67 := hb7.size
      have s6 : w4.heap.size < w6.heap.size := (Array.getElem?_eq_some_iff.1 k6).1
      have hg7 := (hb7.block g (Array.getElem?_eq_some_iff.1 hg6).1).trans hg6
      have q27 := (hb7.block w.heap.size (Array.getElem?_eq_some_iff.1 q26).1).trans q26
      have p7 := (hb7.block w2.heap.size (Array.getElem?_eq_some_iff.1 p6).1).trans p6
      have k7 := (hb7.block w4.heap.size (Array.getElem?_eq_some_iff.1 k6).1).trans k6
      have hgr7 := hgr6.trans (grow_below hb7 (some g))
      have HP := Lib_hid hptr
      have HQ7 := Lib_hid (And.intro q27 k7)
      have HN2 := Lib_hid (numN_le (kd : Int))
      obtain ⟨N, hN⟩ : ∃ N, N = numN (kd : Int) := ⟨_, rfl⟩
      have HNN := Lib_hid hN
      rw [← hN] at HP HN2 ⊢
      clear hg6 q26 p6 k6 hgr6 hb7 hptr d2 q27 k7 hN
      go_wp2
      go_loopw [37] (fun z W => ∃ (j a b : Nat) (ss : List UInt8) (bb : Bool), z = .int .i64 j ∧ j ≤ N ∧ W.heap[g]? = some (RdrC ((m + 1 : Nat) : Int) ss bb) ∧ W.heap[w2.heap.size]? = some (.cells #[.int .i64 (kd : Int), .int .u64 (a : Int), .int .u64 (b : Int), .slice none 0 0] 27 (0, 0)) ∧ w.grownBy W (some g) ∧ Hid (NmI r bad j a b ss bb) ∧
          Hid (∀ i, w.heap.size ≤ i → i < w7.heap.size → i ≠ w2.heap.size → W.heap[i]? = w7.heap[i]?) ∧ w7.heap.size ≤ W.heap.size) (fun z _ => N - (intOf z).toNat)
      case atStart => exact ⟨0, 0, 0, r, bad, rfl, Nat.zero_le _, hg7, p7, hgr7, Lib_hid (NmI.zero r bad), Lib_hid (fun _ _ _ _ => rfl), Nat.le_refl _⟩
      case round =>
        clear hg7 p7 hgr7
        obtain ⟨j, a, b, ss, bb, rfl, hj, hgW, pW, hgrW, hI, hkp, hsW⟩ := hrel
        rename World => W
        have hlss : ss.length ≤ 1000000 := by have := hI.out.len; omega
        by_cases hlt : j < N
        · obtain ⟨pb, rfl, hp1, hp2, hp3⟩ := HP.out j hlt
          have d0 := (World.cell?_of_block (a := ⟨pb, j, none⟩) (hkp.out pb (by omega) hp2 (by omega))).trans hp3
          have hj2 : j = 0 ∨ j = 1 := by have := HN2.out; omega
          clear hp3
          rcases hj2 with rfl | rfl
          · have NB := pnumber_any ((m + 1 : Nat) : Int) ss bb B g W hgW (HE.out W hgrW) hB hlss
            go_wp2_with fail
            refine NB.mono ?_
            rintro e w8 hne
            obtain ⟨hgr8, v, s2, b2, rfl, hg8, hR⟩ : W.grownBy w8 (some g) ∧ ∃ v s2 b2, e = .returned (.int .u64 ((v : Nat) : Int)) ∧ w8.heap[g]? = some (RdrC ((m + 1 : Nat) : Int) s2 b2) ∧ NumR ss bb v s2 b2 := by
              obtain ⟨h1, ⟨v, r', h2, h3, h4⟩ | ⟨h2, h3, h4⟩⟩ := hne
              · exact ⟨h1, v, r', bb, h3, h4, .inl ⟨h2, rfl⟩⟩
              · exact ⟨h1, 0, ss, true, h3, h4, .inr ⟨h2, rfl, rfl, rfl⟩⟩
            have p8 := (hgr8.block w2.heap.size (by omega) (fun e => by injection e with e; omega)).trans pW
            have c1 := cell_of_row w8 _ 1 _ _ _ p8
            have z1 := frozen_of_row w8 w2.heap.size 1 _ _ p8
            simp at c1
            have HX := Lib_hid (And.intro (hI.out.one hR) (And.intro (Joins.block_setCell (i := 1) p8 (.int .u64 (v : Int))) (And.intro ((Below.heap_setCell w8 ⟨w2.heap.size, 1, none⟩ (.int .u64 (v : Int)) g (by show g ≠ w2.heap.size; omega)).trans hg8) (And.intro (grown_aside (i := 1) (hgrW.trans hgr8) (by omega : w.heap.size ≤ w2.heap.size) (.int .u64 (v : Int)))
              (show (∀ i, w.heap.size ≤ i → i < w7.heap.size → i ≠ w2.heap.size → (w8.setCell ⟨w2.heap.size, 1, none⟩ (.int .u64 (v : Int))).heap[i]? = w7.heap[i]?) ∧ w7.heap.size ≤ (w8.setCell ⟨w2.heap.size, 1, none⟩ (.int .u64 (v : Int))).heap.size from
                ⟨fun i h1 h2 h3 => (Below.heap_setCell w8 ⟨w2.heap.size, 1, none⟩ _ i h3).trans ((hgr8.block i (by omega) (fun e => by injection e with e; omega)).trans (hkp.out i h1 h2 h3)), by have := hgr8.size; simp [World.setCell]; omega⟩)))))
            clear NB hne hgW pW hgrW hI hkp hgr8 hg8 p8 hR d0
            go_wp2_with fail
            go_roundw
            case rel => exact ⟨1, v, b, s2, b2, by go_num, by omega, HX.out.2.2.1, HX.out.2.1, HX.out.2.2.2.1, Lib_hid HX.out.1, Lib_hid HX.out.2.2.2.2.1, HX.out.2.2.2.2.2⟩
            case measure => simp [intOf]; omega
          · have MU := must_any ((m + 1 : Nat) : Int) ss [61] bb g W hgW
            go_wp2_with fail
            refine MU.mono ?_
            rintro e w9 ⟨rfl, hgr9, hg9⟩
            have hgr9W := hgrW.trans hgr9
            have htl := trim_le ss [61]
            have NB := pnumber_any ((m + 1 : Nat) : Int) (Lib.trimPrefix ss [61]) (bb || !Lib.hasPrefix ss [61]) B g w9 hg9 (HE.out w9 hgr9W) hB (by omega)
            have d09 := (World.cell?_of_block (a := ⟨pb, 1, none⟩) (hgr9.block pb (by omega) (fun e => by injection e with e; omega))).trans d0
            have p9 := (hgr9.block w2.heap.size (by omega) (fun e => by injection e with e; omega)).trans pW
            have s9 := hgr9.size
            clear MU d0
            go_wp2_with fail
            refine NB.mono ?_
            rintro e w8 hne
            obtain ⟨hgr8, v, s2, b2, rfl, hg8, hR⟩ : w9.grownBy w8 (some g) ∧ ∃ v s2 b2, e = .returned (.int .u64 ((v : Nat) : Int)) ∧ w8.heap[g]? = some (RdrC ((m + 1 : Nat) : Int) s2 b2) ∧ NumR (Lib.trimPrefix ss [61]) (bb || !Lib.hasPrefix ss [61]) v s2 b2 := by
              obtain ⟨h1, ⟨v, r', h2, h3, h4⟩ | ⟨h2, h3, h4⟩⟩ := hne
              · exact ⟨h1, v, r', _, h3, h4, .inl ⟨h2, rfl⟩⟩
              · exact ⟨h1, 0, _, true, h3, h4, .inr ⟨h2, rfl, rfl, rfl⟩⟩
            have p8 := (hgr8.block w2.heap.size (by omega) (fun e => by injection e with e; omega)).trans p9
            have c1 := cell_of_row w8 _ 2 _ _ _ p8
            have z1 := frozen_of_row w8 w2.heap.size 2 _ _ p8
            simp at c1
            have HX := Lib_hid (And.intro (hI.out.two hR) (And.intro (Joins.block_setCell (i := 2) p8 (.int .u64 (v : Int))) (And.intro ((Below.heap_setCell w8 ⟨w2.heap.size, 2, none⟩ (.int .u64 (v : Int)) g (by show g ≠ w2.heap.size; omega)).trans hg8) (And.intro (grown_aside (i := 2) (hgr9W.trans hgr8) (by omega : w.heap.size ≤ w2.heap.size) (.int .u64 (v : Int)))
              (show (∀ i, w.heap.size ≤ i → i < w7.heap.size → i ≠ w2.heap.size → (w8.setCell ⟨w2.heap.size, 2, none⟩ (.int .u64 (v : Int))).heap[i]? = w7.heap[i]?) ∧ w7.heap.size ≤ (w8.setCell ⟨w2.heap.size, 2, none⟩ (.int .u64 (v : Int))).heap.size from
                ⟨fun i h1 h2 h3 => (Below.heap_setCell w8 ⟨w2.heap.size, 2, none⟩ _ i h3).trans (((hgr9.trans hgr8).block i (by omega) (fun e => by injection e with e; omega)).trans (hkp.out i h1 h2 h3)), by have := hgr8.size; simp [World.setCell]; omega⟩)))))
            clear NB hne hgW pW hgrW hI hkp hgr8 hg8 p8 hR d09 hgr9 hg9 hgr9W p9
            go_wp2_with fail
            go_roundw
            case rel => exact ⟨2, a, v, s2, b2, by go_num, by omega, HX.out.2.2.1, HX.out.2.1, HX.out.2.2.2.1, Lib_hid HX.out.1, Lib_hid HX.out.2.2.2.2.1, HX.out.2.2.2.2.2⟩
            case measure => simp [intOf]; omega
        · obtain rfl : j = N := by omega
          have q2W := (hkp.out w.heap.size (Nat.le_refl _) (by omega) (by omega)).trans HQ7.out.1
          have kW := (hkp.out w4.heap.size (by omega) (by omega) (by omega)).trans HQ7.out.2
          have k1 := cell_of_row W _ 1 _ _ _ kW
          simp at k1
          have HI := hI
          rw [HNN.out] at HI
          have h64 := Lib_hid (And.intro hI.out.a64 hI.out.b64)
          have hcase : (1 ≤ kd ∧ kd ≤ 4) ∨ kd = 5 ∨ 6 ≤ kd := by have := HK.out.1; omega
          have hk7 := HK.out.2.1
          clear hI hkp kW
          rcases hcase with ⟨hk1, hk4⟩ | hk5 | hk6
          · have hpn : pn = 0 := by rw [HPN.out, if_neg (by omega), if_neg (by omega)]
            subst hpn
            have hpE := pW
            have hqE := q2W
            have hgE := hgW
            have hgrE := hgrW
            have HPT := Lib_hid (PtI.none (d := d') (B2 := W.heap.size) HKS.out hk1 hk4 hm32 HI.out W)
            clear pW q2W hgW hgrW HI
            have e0 := cell_of_row W _ 0 _ _ _ hpE
            have e1 := cell_of_row W _ 1 _ _ _ hpE
            have e2 := cell_of_row W _ 2 _ _ _ hpE
            have e3 := cell_of_row W _ 3 _ _ _ hpE
            have f0 := cell_of_row W _ 0 _ _ _ hqE
            have f1 := cell_of_row W _ 1 _ _ _ hqE
            have f2 := cell_of_row W _ 2 _ _ _ hqE
            have f3 := cell_of_row W _ 3 _ _ _ hqE
            have y0 := frozen_of_row W w.heap.size 0 _ _ hqE
            have y1 := frozen_of_row W w.heap.size 1 _ _ hqE
            have y2 := frozen_of_row W w.heap.size 2 _ _ hqE
            have y3 := frozen_of_row W w.heap.size 3 _ _ hqE
            simp at e0 e1 e2 e3 f0 f1 f2 f3
            have HX : Hid (NdEnd (d' + 1) m s bad g w (.returned (.agg #[.int .i64 (kd : Int), .int .u64 (a : Int), .int .u64 (b : Int), .slice none 0 0])) (put4 W w.heap.size (.int .i64 (kd : Int)) (.int .u64 (a : Int)) (.int .u64 (b : Int)) (.slice none 0 0)) ∧
                (put4 W w.heap.size (.int .i64 (kd : Int)) (.int .u64 (a : Int)) (.int .u64 (b : Int)) (.slice none 0 0)).heap[w.heap.size]? = some (.cells #[.int .i64 (kd : Int), .int .u64 (a : Int), .int .u64 (b : Int), .slice none 0 0] 27 (0, 0))) :=
              ⟨⟨kd, a, b, 0, 0, (m + 1), none, ss, bb, rfl, grown_put4 hgrE (Nat.le_refl _) _ _ _ _, (put4_else _ (by omega) _ _ _ _).trans hgE, HPT.out.fin hk7 h64.out.1 h64.out.2 (by omega) (by rw [put4_size]; exact Nat.le_refl _) (fun i h1 _ => put4_else _ (by omega) _ _ _ _)⟩, put4_row hqE _ _ _ _⟩
            clear hpE hqE hgE hgrE
            go_wp2_with fail
            show bodyPost _ _ _ _ _ (put4 W w.heap.size (.int .i64 (kd : Int)) (.int .u64 (a : Int)) (.int .u64 (b : Int)) (.slice none 0 0))
            have HX2 := HX.out
            clear HX e0 e1 e2 e3 f0 f1 f2 f3 y0 y1 y2 y3
            generalize put4 W w.heap.size (.int .i64 (kd : Int)) (.int .u64 (a : Int)) (.int .u64 (b : Int)) (.slice none 0 0) = W2 at *
            exact node_ret HX2.2 HX2.1 _ rfl
          · have hpn : pn = 1 := by rw [HPN.out, if_pos hk5]
            subst hpn
            have ND := HIH.out d' (by omega) (m + 1) ss bb B g W hgW (HE.out W hgrW) hB hlss (fun _ => hm32) (by omega)
            rw [hdp1] at ND
            have HK5 := Lib_hid hk5
            clear hk5
            go_wp2_with fail
            refine ND.mono ?_
            rintro e w8 ⟨k2, a2, b2, n2, c2, m', A2, s', bad', rfl, hgr8, hg8, hR⟩
            have p8 := (hgr8.block w2.heap.size (by omega) (fun e => by injection e with e; omega)).trans pW
            have q28 := (hgr8.block w.heap.size (by omega) (fun e => by injection e with e; omega)).trans q2W
            have s8 := hgr8.size
            have HPT := Lib_hid (PtI.one (B2 := W.heap.size) HKS.out HK5.out hm32 HI.out rfl hgr8 hR)
            have b9 := below_new w8 (.cells #[.int .i64 k2, .int .u64 (a2 : Int), .int .u64 (b2 : Int), .slice A2 n2 c2] 27)
            have p9 := (b9.block _ (by omega)).trans p8
            have q29 := (b9.block _ (by omega)).trans q28
            have hg9 := (b9.block g (by omega)).trans hg8
            have hgr9 := (hgrW.trans hgr8).trans (grow_below b9 (some g))
            have c3 := cell_of_row _ _ 3 _ _ _ p9
            have z3 := frozen_of_row _ w2.heap.size 3 _ _ p9
            simp at c3
            have s9 := b9.size
            clear ND hR p8 q28 hg8 hgr8 HI pW q2W hgW hgrW b9
            go_upto_region 18 with (fail)
            generalize w8.alloc (.cells #[.int .i64 k2, .int .u64 (a2 : Int), .int .u64 (b2 : Int), .slice A2 n2 c2] 27) = w9 at *
            have hpE := Joins.block_setCell (i := 3) p9 (.slice (some ⟨w8.heap.size, 0, none⟩) 1 1)
            have hqE := (Below.heap_setCell w9 ⟨w2.heap.size, 3, none⟩ (.slice (some ⟨w8.heap.size, 0, none⟩) 1 1) w.heap.size (by show w.heap.size ≠ w2.heap.size; omega)).trans q29
            have hgE := (Below.heap_setCell w9 ⟨w2.heap.size, 3, none⟩ (.slice (some ⟨w8.heap.size, 0, none⟩) 1 1) g (by show g ≠ w2.heap.size; omega)).trans hg9
            have hgrE := grown_aside (i := 3) hgr9 (by omega : w.heap.size ≤ w2.heap.size) (.slice (some ⟨w8.heap.size, 0, none⟩) 1 1)
            have HKK : Hid (∀ i, W.heap.size ≤ i → (w9.setCell ⟨w2.heap.size, 3, none⟩ (.slice (some ⟨w8.heap.size, 0, none⟩) 1 1)).heap[i]? = w9.heap[i]?) := fun i h1 => Below.heap_setCell w9 ⟨w2.heap.size, 3, none⟩ _ i (by show i ≠ w2.heap.size; omega)
            have HSS : Hid ((w9.setCell ⟨w2.heap.size, 3, none⟩ (.slice (some ⟨w8.heap.size, 0, none⟩) 1 1)).heap.size = w9.heap.size) := by unfold Hid; simp [World.setCell]
            clear p9 q29 hg9 hgr9 c3 z3
            generalize w9.setCell ⟨w2.heap.size, 3, none⟩ (.slice (some ⟨w8.heap.size, 0, none⟩) 1 1) = wE at *
            have hpE : wE.heap[w2.heap.size]? = some (.cells #[.int .i64 (kd : Int), .int .u64 (a : Int), .int .u64 (b : Int), .slice (some ⟨w8.heap.size, 0, none⟩) 1 1] 27 (0, 0)) := hpE
            have e0 := cell_of_row wE _ 0 _ _ _ hpE
            have e1 := cell_of_row wE _ 1 _ _ _ hpE
            have e2 := cell_of_row wE _ 2 _ _ _ hpE
            have e3 := cell_of_row wE _ 3 _ _ _ hpE
            have f0 := cell_of_row wE _ 0 _ _ _ hqE
            have f1 := cell_of_row wE _ 1 _ _ _ hqE
            have f2 := cell_of_row wE _ 2 _ _ _ hqE
            have f3 := cell_of_row wE _ 3 _ _ _ hqE
            have y0 := frozen_of_row wE w.heap.size 0 _ _ hqE
            have y1 := frozen_of_row wE w.heap.size 1 _ _ hqE
            have y2 := frozen_of_row wE w.heap.size 2 _ _ hqE
            have y3 := frozen_of_row wE w.heap.size 3 _ _ hqE
            simp at e0 e1 e2 e3 f0 f1 f2 f3
            have HX : Hid (NdEnd (d' + 1) m s bad g w (.returned (.agg #[.int .i64 (kd : Int), .int .u64 (a : Int), .int .u64 (b : Int), .slice (some ⟨w8.heap.size, 0, none⟩) 1 1])) (put4 wE w.heap.size (.int .i64 (kd : Int)) (.int .u64 (a : Int)) (.int .u64 (b : Int)) (.slice (some ⟨w8.heap.size, 0, none⟩) 1 1)) ∧
                (put4 wE w.heap.size (.int .i64 (kd : Int)) (.int .u64 (a : Int)) (.int .u64 (b : Int)) (.slice (some ⟨w8.heap.size, 0, none⟩) 1 1)).heap[w.heap.size]? = some (.cells #[.int .i64 (kd : Int), .int .u64 (a : Int), .int .u64 (b : Int), .slice (some ⟨w8.heap.size, 0, none⟩) 1 1] 27 (0, 0))) :=
              ⟨⟨kd, a, b, 1, 1, m', (some ⟨w8.heap.size, 0, none⟩), s', bad', rfl, grown_put4 hgrE (Nat.le_refl _) _ _ _ _, (put4_else _ (by omega) _ _ _ _).trans hgE, HPT.out.fin hk7 h64.out.1 h64.out.2 (by omega) (by rw [put4_size, HSS.out]; exact Nat.le_refl _) (fun i h1 _ => (put4_else _ (by omega) _ _ _ _).trans (HKK.out i h1))⟩, put4_row hqE _ _ _ _⟩
            clear hpE hqE hgE hgrE
            go_wp2_with fail
            show bodyPost _ _ _ _ _ (put4 wE w.heap.size (.int .i64 (kd : Int)) (.int .u64 (a : Int)) (.int .u64 (b : Int)) (.slice (some ⟨w8.heap.size, 0, none⟩) 1 1))
            have HX2 := HX.out
            clear HX e0 e1 e2 e3 f0 f1 f2 f3 y0 y1 y2 y3
            generalize put4 wE w.heap.size (.int .i64 (kd : Int)) (.int .u64 (a : Int)) (.int .u64 (b : Int)) (.slice (some ⟨w8.heap.size, 0, none⟩) 1 1) = W2 at *
            exact node_ret HX2.2 HX2.1 _ rfl
          · have hpn : pn = 2 := by rw [HPN.out, if_neg (by omega), if_pos hk6]
            subst hpn
            have LS := plist_any d' (by omega) (HIH.out d' (by omega)) (m + 1) ss bb B g W hgW (HE.out W hgrW) hB hlss (fun _ => hm32) (by omega)
            rw [hdp1] at LS
            go_wp2_with fail
            refine LS.mono ?_
            rintro e w9 ⟨n, c, m', A, s', bad', rfl, hgr8, hg9, hR⟩
            have p9 := (hgr8.block w2.heap.size (by omega) (fun e => by injection e with e; omega)).trans pW
            have q29 := (hgr8.block w.heap.size (by omega) (fun e => by injection e with e; omega)).trans q2W
            have s8 := hgr8.size
            have HPT := Lib_hid (PtI.list (B2 := W.heap.size) HKS.out hk6 hm32 HI.out rfl hR)
            have hgr9 := hgrW.trans hgr8
            have c3 := cell_of_row _ _ 3 _ _ _ p9
            have z3 := frozen_of_row _ w2.heap.size 3 _ _ p9
            simp at c3
            clear LS hR hgr8 HI pW q2W hgW hgrW
            go_upto_region 18 with (fail)
            have hpE := Joins.block_setCell (i := 3) p9 (.slice A n c)
            have hqE := (Below.heap_setCell w9 ⟨w2.heap.size, 3, none⟩ (.slice A n c) w.heap.size (by show w.heap.size ≠ w2.heap.size; omega)).trans q29
            have hgE := (Below.heap_setCell w9 ⟨w2.heap.size, 3, none⟩ (.slice A n c) g (by show g ≠ w2.heap.size; omega)).trans hg9
            have hgrE := grown_aside (i := 3) hgr9 (by omega : w.heap.size ≤ w2.heap.size) (.slice A n c)
            have HKK : Hid (∀ i, W.heap.size ≤ i → (w9.setCell ⟨w2.heap.size, 3, none⟩ (.slice A n c)).heap[i]? = w9.heap[i]?) := fun i h1 => Below.heap_setCell w9 ⟨w2.heap.size, 3, none⟩ _ i (by show i ≠ w2.heap.size; omega)
            have HSS : Hid ((w9.setCell ⟨w2.heap.size, 3, none⟩ (.slice A n c)).heap.size = w9.heap.size) := by unfold Hid; simp [World.setCell]
            clear p9 q29 hg9 hgr9 c3 z3
            generalize w9.setCell ⟨w2.heap.size, 3, none⟩ (.slice A n c) = wE at *
            have hpE : wE.heap[w2.heap.size]? = some (.cells #[.int .i64 (kd : Int), .int .u64 (a : Int), .int .u64 (b : Int), .slice A n c] 27 (0, 0)) := hpE
            have e0 := cell_of_row wE _ 0 _ _ _ hpE
            have e1 := cell_of_row wE _ 1 _ _ _ hpE
            have e2 := cell_of_row wE _ 2 _ _ _ hpE
            have e3 := cell_of_row wE _ 3 _ _ _ hpE
            have f0 := cell_of_row wE _ 0 _ _ _ hqE
            have f1 := cell_of_row wE _ 1 _ _ _ hqE
            have f2 := cell_of_row wE _ 2 _ _ _ hqE
            have f3 := cell_of_row wE _ 3 _ _ _ hqE
            have y0 := frozen_of_row wE w.heap.size 0 _ _ hqE
            have y1 := frozen_of_row wE w.heap.size 1 _ _ hqE
            have y2 := frozen_of_row wE w.heap.size 2 _ _ hqE
            have y3 := frozen_of_row wE w.heap.size 3 _ _ hqE
            simp at e0 e1 e2 e3 f0 f1 f2 f3
            have HX : Hid (NdEnd (d' + 1) m s bad g w (.returned (.agg #[.int .i64 (kd : Int), .int .u64 (a : Int), .int .u64 (b : Int), .slice A n c])) (put4 wE w.heap.size (.int .i64 (kd : Int)) (.int .u64 (a : Int)) (.int .u64 (b : Int)) (.slice A n c)) ∧
                (put4 wE w.heap.size (.int .i64 (kd : Int)) (.int .u64 (a : Int)) (.int .u64 (b : Int)) (.slice A n c)).heap[w.heap.size]? = some (.cells #[.int .i64 (kd : Int), .int .u64 (a : Int), .int .u64 (b : Int), .slice A n c] 27 (0, 0))) :=
              ⟨⟨kd, a, b, n, c, m', A, s', bad', rfl, grown_put4 hgrE (Nat.le_refl _) _ _ _ _, (put4_else _ (by omega) _ _ _ _).trans hgE, HPT.out.fin hk7 h64.out.1 h64.out.2 (by omega) (by rw [put4_size, HSS.out]; exact Nat.le_refl _) (fun i h1 _ => (put4_else _ (by omega) _ _ _ _).trans (HKK.out i h1))⟩, put4_row hqE _ _ _ _⟩
            clear hpE hqE hgE hgrE
            go_wp2_with fail
            show bodyPost _ _ _ _ _ (put4 wE w.heap.size (.int .i64 (kd : Int)) (.int .u64 (a : Int)) (.int .u64 (b : Int)) (.slice A n c))
            have HX2 := HX.out
            clear HX e0 e1 e2 e3 f0 f1 f2 f3 y0 y1 y2 y3
            generalize put4 wE w.heap.size (.int .i64 (kd : Int)) (.int .u64 (a : Int)) (.int .u64 (b : Int)) (.slice A n c) = W2 at *
            exact node_ret HX2.2 HX2.1 _ rfl
    · have hE1 : decide (dp ≤ 8 ∧ m + 1 ≤ 32) = false := by simp only [decide_eq_false_iff_not]; exact hen
      rw [hE1]
      have hno : bad = false → ∀ t q, rdS d s = some (t, q) → 32 < m + t.count := by
        intro hb t q h
        have := hm hb
        have := HDP.out
        have hcp := count_pos t
        by_cases h8 : dp ≤ 8
        · have : ¬ m + 1 ≤ 32 := fun h => hen ⟨h8, h⟩
          omega
        · have hd0 : d = 0 := by omega
          subst hd0
          cases h
      clear hE1 hen
      have c2 := cell_of_row w6 _ 2 _ _ _ hg6
      have z2 := frozen_of_row w6 g 2 _ _ hg6
      have hqz : (w6.setCell ⟨g, 2, none⟩ (.bool true)).heap[w.heap.size]? = _ := (Below.heap_setCell w6 ⟨g, 2, none⟩ _ w.heap.size (by show w.heap.size ≠ g; omega)).trans q26
      have e0 := cell_of_row _ _ 0 _ _ _ hqz
      have e1 := cell_of_row _ _ 1 _ _ _ hqz
      have e2 := cell_of_row _ _ 2 _ _ _ hqz
      have e3 := cell_of_row _ _ 3 _ _ _ hqz
      have y0 := frozen_of_row _ w.heap.size 0 _ _ hqz
      have y1 := frozen_of_row _ w.heap.size 1 _ _ hqz
      have y2 := frozen_of_row _ w.heap.size 2 _ _ hqz
      have y3 := frozen_of_row _ w.heap.size 3 _ _ hqz
      simp at c2 e0 e1 e2 e3
      have HX := Lib_hid (HBAD.out w6 (m + 1) hg6 q26 hgr6 (by omega) hno)
      clear HBAD hg6 q26 hqz
      go_wp2_with fail
      show bodyPost _ _ _ _ _ (put4 (w6.setCell ⟨g, 2, none⟩ (.bool true)) w.heap.size (.int .i64 0) (.int .u64 0) (.int .u64 0) (.slice none 0 0))
      have HX2 := HX.out
      clear HX e0 e1 e2 e3 y0 y1 y2 y3 c2 z2
      generalize put4 (w6.setCell ⟨g, 2, none⟩ (.bool true)) w.heap.size (.int .i64 0) (.int .u64 0) (.int .u64 0) (.slice none 0 0) = W2 at *
      exact node_ret HX2.2 HX2.1 _ rfl

end Go.Proofs.YtbcadnkdehknoaaGreatDoor

namespace Go.Proofs.YtbcadnkdehknoaaGreatDoor
open Go Go.RowKit
set_option linter.unusedVariables false

/-- A tree, or none, as it is answered: with the error. -/
def ansT : Option T → T × Nat
  | some t => (t, 0)
  | none => (.node 0 0 0 [], 40)
/-- The predicate whose text that is. -/
def readT (s : List UInt8) : Option T := match rdS 8 s with
  | some (t, []) => if t.rightB then some t else none
  | _ => none
def AnsEnd (E : TypeId) (o : T × Nat) (w : World) (e : Ending) (w' : World) : Prop :=
  ∃ u : V, e = .returned (.tuple #[u.val, .int .i64 (o.2 : Int)]) ∧ u.abs = o.1 ∧ Lies w' w.heap.size w'.heap.size u ∧ Shp E w' w.heap.size u ∧ Below w.heap.size w w'
theorem zero_lies (w : World) (lo hi : Nat) : Lies w lo hi (.node 0 0 0 none 0 []) := .mk _ _ _ _ _ _ (by omega) (by omega) (by omega) Rd.zero (by simp) (fun ad e => by cases e) (by simp)
theorem zero_shp (E : TypeId) (w : World) (lo : Nat) : Shp E w lo (.node 0 0 0 none 0 []) := .mk _ _ _ _ _ _ (by simp) (by simp)

set_option maxRecDepth 100000 in
theorem read_ret {Q : Ending → World → Prop} {W : World} {h0 z : Nat} {x0 x1 x2 x3 : Value} (HR2 : W.heap[h0]? = some (.cells #[x0, x1, x2, x3] 27 (0, 0))) (HF2 : Q (.returned (.tuple #[.agg #[x0, x1, x2, x3], .int .i64 z])) W)
    (tmps : Array Value) (h2 : tmps.getD 2 undef = .pointer (some ⟨h0, 0, none⟩)) (h3 : tmps.getD 3 undef = .int .i64 z) : bodyPost Tryz.prog Tryz.f176 Q .ret { tmps := tmps, defers := [] } W := by
  rw [Array.getD_eq_getD_getElem?] at h2 h3
  have d0 := cell_of_row W _ 0 _ _ _ HR2
  have d1 := cell_of_row W _ 1 _ _ _ HR2
  have d2 := cell_of_row W _ 2 _ _ _ HR2
  have d3 := cell_of_row W _ 3 _ _ _ HR2
  simp at d0 d1 d2 d3
  exact bodyPost_ret (v := .tuple #[.agg #[x0, x1, x2, x3], .int .i64 z]) (by simp [results, Tryz.results176, go_sem, h2, h3, d0, d1, d2, d3]) rfl HF2

set_option maxRecDepth 100000 in
set_option maxHeartbeats 3200000 in
theorem pread_any (s : List UInt8) (B : Nat) (w : World) (hE : Env B w) (hB : B ≤ w.heap.size) (hl : s.length ≤ 1000000) :
    Calls Tryz.prog 176 #[.string ⟨s.toArray⟩] w (AnsEnd 27 (ansT (readT s)) w) := by
  obtain ⟨w1, hw1⟩ : ∃ w1, w1 = w.alloc (.cells #[.int .i64 0, .int .u64 0, .int .u64 0, .slice none 0 0] 27) := ⟨_, rfl⟩
  have q1 := heap_alloc_new w (.cells #[.int .i64 0, .int .u64 0, .int .u64 0, .slice none 0 0] 27)
  have b1 := below_new w (.cells #[.int .i64 0, .int .u64 0, .int .u64 0, .slice none 0 0] 27)
  have s1 : w1.heap.size = w.heap.size + 1 := by rw [hw1]; simp
  rw [← hw1] at q1 b1
  obtain ⟨w2, hw2⟩ : ∃ w2, w2 = w1.alloc (.cells #[.int .i64 0, .string ⟨s.toArray⟩, .bool false] 248) := ⟨_, rfl⟩
  have g2 := heap_alloc_new w1 (.cells #[.int .i64 0, .string ⟨s.toArray⟩, .bool false] 248)
  have b2 := below_new w1 (.cells #[.int .i64 0, .string ⟨s.toArray⟩, .bool false] 248)
  have s2 : w2.heap.size = w.heap.size + 2 := by rw [hw2]; simp [s1]
  rw [← hw2] at g2 b2
  rw [s1] at g2 b2
  have g2 : w2.heap[w.heap.size + 1]? = some (RdrC 0 s false) := g2
  have q2 := (b2.block w.heap.size (by omega)).trans q1
  have hbw := b1.trans (b2.mono (by omega))
  have ND := pnode_any 8 (Nat.le_refl _) 0 s false B (w.heap.size + 1) w2 g2 (hE.under hbw hB) (by omega) hl (fun _ => by omega) (by omega)
  have ND : Calls Tryz.prog 202 #[.pointer (some ⟨w.heap.size + 1, 0, none⟩), .int .i64 1] w2 (NdEnd 8 0 s false (w.heap.size + 1) w2) := ND
  have HOK : Hid (∀ t, rdS 8 s = some (t, []) → t.rightB = true → ansT (readT s) = (t, 0)) := fun t h1 h2 => by unfold readT; rw [h1]; simp [h2, ansT]
  have HNO : Hid ((∀ t, rdS 8 s = some (t, []) → t.rightB = false) → ansT (readT s) = (.node 0 0 0 [], 40)) := fun h => by
    unfold readT
    cases h8 : rdS 8 s with
    | none => rfl
    | some x =>
      obtain ⟨t, r⟩ := x
      cases r with
      | nil => simp [h t h8, ansT]
      | cons c r => rfl
  generalize ansT (readT s) = o at *
  have HB2 := Lib_hid (And.intro hbw s2)
  have HBADEND : Hid (∀ W : World, W.heap[w.heap.size]? = some (.cells #[.int .i64 0, .int .u64 0, .int .u64 0, .slice none 0 0] 27 (0, 0)) → Below w.heap.size w W → (∀ t, rdS 8 s = some (t, []) → t.rightB = false) →
      AnsEnd 27 o w (.returned (.tuple #[.agg #[.int .i64 0, .int .u64 0, .int .u64 0, .slice none 0 0], .int .i64 40])) (put4 W w.heap.size (.int .i64 0) (.int .u64 0) (.int .u64 0) (.slice none 0 0)) ∧
      (put4 W w.heap.size (.int .i64 0) (.int .u64 0) (.int .u64 0) (.slice none 0 0)).heap[w.heap.size]? = some (.cells #[.int .i64 0, .int .u64 0, .int .u64 0, .slice none 0 0] 27 (0, 0))) := by
    intro W h1 h2 h3
    rw [HNO.out h3]
    exact ⟨⟨.node 0 0 0 none 0 [], rfl, by simp [V.abs, V.absL], zero_lies _ _ _, zero_shp _ _ _, put4_below h2 (Nat.le_refl _) _ _ _ _⟩, put4_row h1 _ _ _ _⟩
  subst hw2 hw1
  clear b1 b2 q1 g2 hE hbw
  go_enter Tryz.func176, Tryz.ntmps176
  go_upto_region 2 with (fail)
  generalize (w.alloc _).alloc (.cells #[.int .i64 0, .string ⟨s.toArray⟩, .bool false] 248) = w2 at *
  go_wp2_with fail
  refine ND.mono ?_
  rintro e w3 ⟨k, a, b, n, c, m', A, s', bad', rfl, hgr3, hg3, hR⟩
  have hb3 : Below w.heap.size w w3 := HB2.out.1.trans (⟨hgr3.os, hgr3.tape, hgr3.output, hgr3.size, fun i hi => hgr3.block i (by have := HB2.out.2; omega) (fun e => by injection e with e; omega)⟩ : Below w.heap.size w2 w3)
  have q3 := (hgr3.block w.heap.size (by have := HB2.out.2; omega) (fun e => by injection e with e; omega)).trans q2
  have s3 := hgr3.size
  have b4 := below_new w3 (.cells #[.int .i64 k, .int .u64 (a : Int), .int .u64 (b : Int), .slice A n c] 27)
  have r4 := heap_alloc_new w3 (.cells #[.int .i64 k, .int .u64 (a : Int), .int .u64 (b : Int), .slice A n c] 27)
  have q4 := (b4.block w.heap.size (by have := HB2.out.2; omega)).trans q3
  have g4 := (b4.block (w.heap.size + 1) (by have := HB2.out.2; omega)).trans hg3
  have hb4 := hb3.trans (b4.mono (by have := HB2.out.2; omega))
  have s4 : (w3.alloc (.cells #[.int .i64 k, .int .u64 (a : Int), .int .u64 (b : Int), .slice A n c] 27)).heap.size = w3.heap.size + 1 := by simp
  obtain ⟨hm, hok⟩ := hR.ok rfl
  have HB4B := Lib_hid b4
  have HL4 : Hid (bad' = false → ∃ t us, rdS 8 s = some (t, s') ∧ (V.node k a b A c us).abs = t ∧ us.length = n ∧ Lies w3 w2.heap.size w3.heap.size (.node k a b A c us) ∧ Shp 27 w3 w2.heap.size (.node k a b A c us) ∧ t.count ≤ 32) := by
    intro hb
    rcases hok with ⟨t, us, e1, e2, e3, e4, e5, e6, e7, e8⟩ | ⟨_, h⟩
    · exact ⟨t, us, e1, e5, e6, e7, e8, by omega⟩
    · rw [h] at hb; cases hb
  have HBB : Hid (bad' = true → ∀ t, rdS 8 s = some (t, []) → t.rightB = false) := by
    intro hb t ht
    rcases hok with ⟨t', us, e1, e2, e3, e4, e5, e6, e7, e8⟩ | ⟨h, _⟩
    · rw [hb] at e3; cases e3
    · have := h t [] ht
      cases hr : t.rightB with
      | false => rfl
      | true => have := (right_all hr).2; omega
  clear ND hR hok hm hb3 q3 hg3 b4 q2 hgr3
  go_upto_region 3 with (fail)
  generalize w3.alloc (.cells #[.int .i64 k, .int .u64 (a : Int), .int .u64 (b : Int), .slice A n c] 27) = w4 at *
  have c1 := cell_of_row w4 _ 1 _ _ _ g4
  have c2 := cell_of_row w4 _ 2 _ _ _ g4
  simp at c1 c2
  cases bad' with
  | true =>
    have e0 := cell_of_row w4 _ 0 _ _ _ q4
    have e1 := cell_of_row w4 _ 1 _ _ _ q4
    have e2 := cell_of_row w4 _ 2 _ _ _ q4
    have e3 := cell_of_row w4 _ 3 _ _ _ q4
    have y0 := frozen_of_row w4 w.heap.size 0 _ _ q4
    have y1 := frozen_of_row w4 w.heap.size 1 _ _ q4
    have y2 := frozen_of_row w4 w.heap.size 2 _ _ q4
    have y3 := frozen_of_row w4 w.heap.size 3 _ _ q4
    simp at e0 e1 e2 e3
    have HX := Lib_hid (HBADEND.out w4 q4 hb4 (HBB.out rfl))
    clear q4 hb4
    go_wp2_with fail
    show bodyPost _ _ _ _ _ (put4 w4 w.heap.size (.int .i64 0) (.int .u64 0) (.int .u64 0) (.slice none 0 0))
    have HX2 := HX.out
    clear HX HBADEND e0 e1 e2 e3 y0 y1 y2 y3
    generalize put4 w4 w.heap.size (.int .i64 0) (.int .u64 0) (.int .u64 0) (.slice none 0 0) = W2 at *
    exact read_ret (z := 40) HX2.2 HX2.1 _ rfl rfl
  | false =>
    by_cases hs' : s' = []
    · subst hs'
      obtain ⟨t, us, e1, e2, rfl, hL, hS, hct⟩ := HL4.out rfl
      have hL4 := hL.under (HB4B.out.mono (Nat.le_refl _))
      have RR := pright_any (.node k a b A c us) w4 _ _ hL4 (by omega)
      rw [e2] at RR
      simp only [V.val, V.kind, V.a, V.b, V.sl, V.addr, V.parts, V.cap] at RR
      have d0 := cell_of_row w4 _ 0 _ _ _ r4
      have d1 := cell_of_row w4 _ 1 _ _ _ r4
      have d2 := cell_of_row w4 _ 2 _ _ _ r4
      have d3 := cell_of_row w4 _ 3 _ _ _ r4
      simp at d0 d1 d2 d3
      have HLS := Lib_hid (And.intro e1 (And.intro e2 (And.intro hL4 (hS.under HB4B.out))))
      clear e1 e2 hL hS hL4 HL4 hct HBB
      generalize hn : us.length = n at *
      have HUS := Lib_hid hn
      clear hn
      go_wp2_with fail
      refine RR.mono ?_
      rintro e w5 ⟨rfl, hb5⟩
      have q5 := (hb5.block w.heap.size (by omega)).trans q4
      have r5 := (hb5.block w3.heap.size (by omega)).trans r4
      have hbw5 := hb4.trans (hb5.mono hb4.size)
      have HB5 := Lib_hid hb5
      clear RR d0 d1 d2 d3 c1 c2 q4 r4 hb4 hb5 g4
      cases hr : t.rightB with
      | true =>
        obtain ⟨e1, e2, hL4, hS4⟩ := HLS.out
        have HX : Hid (AnsEnd 27 o w (.returned (.tuple #[.agg #[.int .i64 k, .int .u64 (a : Int), .int .u64 (b : Int), .slice A n c], .int .i64 0])) (put4 w5 w.heap.size (.int .i64 k) (.int .u64 (a : Int)) (.int .u64 (b : Int)) (.slice A n c)) ∧
            (put4 w5 w.heap.size (.int .i64 k) (.int .u64 (a : Int)) (.int .u64 (b : Int)) (.slice A n c)).heap[w.heap.size]? = some (.cells #[.int .i64 k, .int .u64 (a : Int), .int .u64 (b : Int), .slice A n c] 27 (0, 0))) := by
          have h2s := HB2.out.2
          have h5s := HB5.out.size
          rw [HOK.out t e1 hr]
          refine ⟨⟨.node k a b A c us, by rw [← HUS.out]; rfl, e2, ?_, ?_, put4_below hbw5 (Nat.le_refl _) _ _ _ _⟩, put4_row q5 _ _ _ _⟩
          · rw [put4_size]
            exact ((hL4.under (HB5.out.mono (by omega))).keep fun p h1 _ => World.cell?_of_block (put4_else w5 (by omega) _ _ _ _)).more (by omega) (by omega)
          · exact (Shp.keepL _ (hL4.under (HB5.out.mono (by omega))) (hS4.under HB5.out) fun g' h1 _ => put4_else w5 (by omega) _ _ _ _).more (by omega)
        have e0 := cell_of_row w5 _ 0 _ _ _ q5
        have e1 := cell_of_row w5 _ 1 _ _ _ q5
        have e2 := cell_of_row w5 _ 2 _ _ _ q5
        have e3 := cell_of_row w5 _ 3 _ _ _ q5
        have y0 := frozen_of_row w5 w.heap.size 0 _ _ q5
        have y1 := frozen_of_row w5 w.heap.size 1 _ _ q5
        have y2 := frozen_of_row w5 w.heap.size 2 _ _ q5
        have y3 := frozen_of_row w5 w.heap.size 3 _ _ q5
        have f0 := cell_of_row w5 _ 0 _ _ _ r5
        have f1 := cell_of_row w5 _ 1 _ _ _ r5
        have f2 := cell_of_row w5 _ 2 _ _ _ r5
        have f3 := cell_of_row w5 _ 3 _ _ _ r5
        simp at e0 e1 e2 e3 f0 f1 f2 f3
        clear q5 r5 hbw5 hL4 hS4 HLS
        go_wp2_with fail
        show bodyPost _ _ _ _ _ (put4 w5 w.heap.size (.int .i64 k) (.int .u64 (a : Int)) (.int .u64 (b : Int)) (.slice A n c))
        have HX2 := HX.out
        clear HX HBADEND e0 e1 e2 e3 y0 y1 y2 y3 f0 f1 f2 f3
        generalize put4 w5 w.heap.size (.int .i64 k) (.int .u64 (a : Int)) (.int .u64 (b : Int)) (.slice A n c) = W2 at *
        exact read_ret (z := 0) HX2.2 HX2.1 _ rfl rfl
      | false =>
        have hno : ∀ t', rdS 8 s = some (t', []) → t'.rightB = false := fun t' h => by
          have := HLS.out.1
          rw [h] at this
          injection this with this
          injection this with this _
          rw [this]; exact hr
        have e0 := cell_of_row w5 _ 0 _ _ _ q5
        have e1 := cell_of_row w5 _ 1 _ _ _ q5
        have e2 := cell_of_row w5 _ 2 _ _ _ q5
        have e3 := cell_of_row w5 _ 3 _ _ _ q5
        have y0 := frozen_of_row w5 w.heap.size 0 _ _ q5
        have y1 := frozen_of_row w5 w.heap.size 1 _ _ q5
        have y2 := frozen_of_row w5 w.heap.size 2 _ _ q5
        have y3 := frozen_of_row w5 w.heap.size 3 _ _ q5
        simp at e0 e1 e2 e3
        have HX := Lib_hid (HBADEND.out w5 q5 hbw5 hno)
        clear q5 hbw5
        go_wp2_with fail
        show bodyPost _ _ _ _ _ (put4 w5 w.heap.size (.int .i64 0) (.int .u64 0) (.int .u64 0) (.slice none 0 0))
        have HX2 := HX.out
        clear HX HBADEND e0 e1 e2 e3 y0 y1 y2 y3
        generalize put4 w5 w.heap.size (.int .i64 0) (.int .u64 0) (.int .u64 0) (.slice none 0 0) = W2 at *
        exact read_ret (z := 40) HX2.2 HX2.1 _ rfl rfl
    · have hsb : (s' == []) = false := by cases s' with | nil => exact absurd rfl hs' | cons x y => rfl
      have hno : ∀ t', rdS 8 s = some (t', []) → t'.rightB = false := fun t' h => by
        obtain ⟨t, us, e1, _⟩ := HL4.out rfl
        rw [e1] at h
        injection h with h
        injection h with _ h
        exact absurd h hs'
      have HS' := Lib_hid hs'
      clear hs'
      have e0 := cell_of_row w4 _ 0 _ _ _ q4
      have e1 := cell_of_row w4 _ 1 _ _ _ q4
      have e2 := cell_of_row w4 _ 2 _ _ _ q4
      have e3 := cell_of_row w4 _ 3 _ _ _ q4
      have y0 := frozen_of_row w4 w.heap.size 0 _ _ q4
      have y1 := frozen_of_row w4 w.heap.size 1 _ _ q4
      have y2 := frozen_of_row w4 w.heap.size 2 _ _ q4
      have y3 := frozen_of_row w4 w.heap.size 3 _ _ q4
      simp at e0 e1 e2 e3
      have HX := Lib_hid (HBADEND.out w4 q4 hb4 hno)
      clear q4 hb4
      go_wp2_with fail
      show bodyPost _ _ _ _ _ (put4 w4 w.heap.size (.int .i64 0) (.int .u64 0) (.int .u64 0) (.slice none 0 0))
      have HX2 := HX.out
      clear HX HBADEND e0 e1 e2 e3 y0 y1 y2 y3
      generalize put4 w4 w.heap.size (.int .i64 0) (.int .u64 0) (.int .u64 0) (.slice none 0 0) = W2 at *
      exact read_ret (z := 40) HX2.2 HX2.1 _ rfl rfl

end Go.Proofs.YtbcadnkdehknoaaGreatDoor

namespace Go.Proofs.YtbcadnkdehknoaaGreatDoor
open Go Go.RowKit
set_option linter.unusedVariables false

/-! ### Texts -/
theorem dec_dig (n : Nat) : ∀ c ∈ Lib.decDigits n, isDig c = true := by
  induction n using Nat.strongRecOn with
  | _ n ih =>
  have hd : ∀ m : Nat, m < 10 → isDig (UInt8.ofNat (48 + m)) = true := fun m hm => by
    rw [isDig_iff]
    have : (UInt8.ofNat (48 + m)).toNat = 48 + m := by simp; omega
    omega
  by_cases h : n < 10
  · rw [dec1 h]
    intro c hc
    obtain rfl : c = UInt8.ofNat (48 + n) := by simpa using hc
    exact hd n h
  · rw [Lib.decDigits, dif_neg h]
    intro c hc
    rcases List.mem_append.1 hc with hc | hc
    · exact ih (n / 10) (by omega) c hc
    · obtain rfl : c = UInt8.ofNat (48 + n % 10) := by simpa using hc
      exact hd _ (Nat.mod_lt _ (by omega))
theorem dec_parse (n : Nat) : n ≤ 18446744073709551615 → Lib.parseUintM 18446744073709551615 0 (Lib.decDigits n) = .ok n := by
  induction n using Nat.strongRecOn with
  | _ n ih =>
  intro hn
  have hd : ∀ m : Nat, m < 10 → isDig (UInt8.ofNat (48 + m)) = true ∧ (UInt8.ofNat (48 + m)).toNat - 48 = m := fun m hm => by
    have : (UInt8.ofNat (48 + m)).toNat = 48 + m := by simp; omega
    exact ⟨by rw [isDig_iff]; omega, by omega⟩
  by_cases h : n < 10
  · rw [dec1 h, parse_one (hd n h).1, (hd n h).2, if_neg (by omega)]
    simp
  · obtain ⟨h1, h2⟩ := hd (n % 10) (Nat.mod_lt _ (by omega))
    rw [Lib.decDigits, dif_neg h, parse_append, ih (n / 10) (by omega) (by omega)]
    simp only
    rw [parse_one h1, h2, if_neg (by omega)]
    congr 1
    omega
theorem dec_pos (n : Nat) : 0 < (Lib.decDigits n).length := by
  rw [Lib.decDigits]
  split <;> simp
theorem num_dec (n : Nat) (hn : n < 18446744073709551616) (r : List UInt8) (hr : ∀ c, r[0]? = some c → isDig c = false) : numS (Lib.decDigits n ++ r) = some (n, r) := by
  have h0 : DgI (Lib.decDigits n ++ r) (Lib.decDigits n).length n := by
    unfold DgI
    rw [List.take_left]
    exact ⟨dec_dig n, dec_parse n (by omega)⟩
  rw [h0.done (by simp) (fun c hc => hr c (by rw [List.getElem?_append_right (Nat.le_refl _), Nat.sub_self] at hc; exact hc)), if_pos ⟨dec_pos n, by rw [List.take_left]⟩, List.drop_left]

/-- Behind a text stands no digit. -/
def NoDig (r : List UInt8) : Prop := ∀ c, r[0]? = some c → isDig c = false
theorem noDig_cons (c : UInt8) (r : List UInt8) (h : isDig c = false) : NoDig (c :: r) := fun x hx => by
  obtain rfl : c = x := by simpa using hx
  exact h
theorem tell_head {t : T} (h : t.allB = true) : ∃ c l, t.tell = c :: l ∧ c ≠ 41 := by
  obtain ⟨k, a, b, ps⟩ := t
  rw [T.allB, Bool.and_eq_true] at h
  rw [T.tell]
  rcases fits_kind h.2 with rfl | rfl | rfl | rfl | rfl | rfl | rfl
  · exact ⟨97, _, rfl, by decide⟩
  · exact ⟨120, _, rfl, by decide⟩
  · exact ⟨118, _, rfl, by decide⟩
  · exact ⟨118, _, rfl, by decide⟩
  · exact ⟨33, _, rfl, by decide⟩
  · exact ⟨38, _, rfl, by decide⟩
  · exact ⟨124, _, rfl, by decide⟩
theorem join_two (x y : List UInt8) (r : List (List UInt8)) (sep : List UInt8) : Lib.join (x :: y :: r) sep = x ++ sep ++ Lib.join (y :: r) sep := by
  rw [Lib.join_cons, Lib.join_cons]
  simp [Lib.joinTail, List.append_assoc]
theorem cont_tell {f : List UInt8 → Option (T × List UInt8)} (hf : ∀ s t r, f s = some (t, r) → r.length < s.length) (r : List UInt8) :
    ∀ (ps : List T) (p : T), (∀ x ∈ p :: ps, ∀ r', NoDig r' → f (x.tell ++ r') = some (x, r')) → contS f (Lib.join (T.tellL (p :: ps)) [44] ++ 41 :: r) = some (p :: ps, r)
  | [], p, h => by
    rw [T.tellL, T.tellL, Lib.join_one]
    exact cont_shut (h p (by simp) _ (noDig_cons _ _ (by decide)))
  | q :: ps, p, h => by
    have e : Lib.join (T.tellL (p :: q :: ps)) [44] ++ 41 :: r = p.tell ++ 44 :: (Lib.join (T.tellL (q :: ps)) [44] ++ 41 :: r) := by
      rw [T.tellL, T.tellL, join_two]
      simp [List.append_assoc]
    rw [e, cont_more hf (h p (by simp) _ (noDig_cons _ _ (by decide))), cont_tell hf r ps q fun x hx => h x (by simp at hx ⊢; exact .inr hx)]
    rfl
theorem rd_tell : ∀ (t : T) (d : Nat) (r : List UInt8), t.allB = true → t.okN → t.depth ≤ d → NoDig r → rdS d (t.tell ++ r) = some (t, r) := by
  refine T.ind fun k a b ps ih d r hall hok hd hr => ?_
  rw [T.allB, Bool.and_eq_true] at hall
  rw [T.okN] at hok
  rw [T.depth] at hd
  obtain ⟨ha, hb, -, hol⟩ := hok
  obtain ⟨hal, hfit⟩ := hall
  obtain ⟨d', rfl⟩ : ∃ d', d = d' + 1 := ⟨d - 1, by omega⟩
  have IH : ∀ p ∈ ps, ∀ r', NoDig r' → rdS d' (p.tell ++ r') = some (p, r') := fun p hp r' hr' => ih p hp d' r' (all_mem hal p hp) ((okL_iff _).1 hol p hp) (depth_mem (by omega) p hp) hr'
  have hfit2 := hfit
  unfold fitsB at hfit2
  rcases fits_kind hfit with rfl | rfl | rfl | rfl | rfl | rfl | rfl
  · obtain ⟨rfl, rfl, h0⟩ := of_decide_eq_true hfit2
    obtain rfl := List.eq_nil_of_length_eq_zero h0
    rw [tell_1 hfit, rd_all (by simp [Lib.hasPrefix, List.isPrefixOf])]
    rfl
  · obtain ⟨rfl, h0⟩ := of_decide_eq_true hfit2
    obtain rfl := List.eq_nil_of_length_eq_zero h0
    rw [tell_2 hfit, rd_x (by simp [Lib.hasPrefix, List.isPrefixOf]) (by simp [Lib.hasPrefix, List.isPrefixOf])]
    show (numS (Lib.decDigits a ++ r)).map _ = _
    rw [num_dec a ha r hr]
    rfl
  · obtain ⟨rfl, h0⟩ := of_decide_eq_true hfit2
    obtain rfl := List.eq_nil_of_length_eq_zero h0
    rw [tell_3 hfit, rd_v (by simp [Lib.hasPrefix, List.isPrefixOf]) (by simp [Lib.hasPrefix, List.isPrefixOf]) (by simp [Lib.hasPrefix, List.isPrefixOf])]
    show (numS (Lib.decDigits a ++ r)).map _ = _
    rw [num_dec a ha r hr]
    rfl
  · obtain ⟨-, h0⟩ := of_decide_eq_true hfit2
    obtain rfl := List.eq_nil_of_length_eq_zero h0
    rw [tell_4 hfit, rd_m (by simp [Lib.hasPrefix, List.isPrefixOf]) (by simp [Lib.hasPrefix, List.isPrefixOf]) (by simp [Lib.hasPrefix, List.isPrefixOf]) (by simp [Lib.hasPrefix, List.isPrefixOf])]
    show (numS (Lib.decDigits a ++ [61] ++ Lib.decDigits b ++ r)).bind _ = _
    rw [show Lib.decDigits a ++ [61] ++ Lib.decDigits b ++ r = Lib.decDigits a ++ (61 :: (Lib.decDigits b ++ r)) by simp, num_dec a ha _ (noDig_cons _ _ (by decide)), Option.bind_some]
    simp only
    rw [pre_one, if_pos (by decide)]
    show (numS (Lib.decDigits b ++ r)).map _ = _
    rw [num_dec b hb r hr]
    rfl
  · obtain ⟨rfl, rfl, h0⟩ := of_decide_eq_true hfit2
    obtain ⟨p, rfl⟩ : ∃ p, ps = [p] := by
      match ps, h0 with
      | [p], _ => exact ⟨p, rfl⟩
    have hn : ∀ i, 1 ≤ i → i < 5 → Lib.hasPrefix ([33] ++ p.tell ++ r) (wordL i) = false := fun i h1 h2 => by
      have : i = 1 ∨ i = 2 ∨ i = 3 ∨ i = 4 := by omega
      rcases this with rfl | rfl | rfl | rfl <;> rfl
    rw [tell_5, rd_n hn rfl]
    show (rdS d' (p.tell ++ r)).map _ = _
    rw [IH p (by simp) r hr]
    rfl
  · obtain ⟨rfl, rfl⟩ := of_decide_eq_true hfit2
    rw [tell_67 (.inl rfl)]
    have e : [if (6 : Int) = 7 then (124 : UInt8) else 38, 40] ++ Lib.join (T.tellL ps) [44] ++ [41] ++ r = 38 :: 40 :: (Lib.join (T.tellL ps) [44] ++ 41 :: r) := by simp
    rw [e, rd_r 6 38 (.inl ⟨rfl, rfl⟩) (fun i h1 h2 => by
      have : i = 1 ∨ i = 2 ∨ i = 3 ∨ i = 4 ∨ i = 5 := by omega
      rcases this with rfl | rfl | rfl | rfl | rfl <;> rfl) rfl, if_pos (show Lib.hasPrefix (38 :: 40 :: (Lib.join (T.tellL ps) [44] ++ 41 :: r)) [38, 40] = true from rfl)]
    show (listB (rdS d') (Lib.join (T.tellL ps) [44] ++ 41 :: r)).map _ = _
    cases ps with
    | nil => rfl
    | cons p ps =>
      obtain ⟨c, l, h1, h2⟩ := tell_head (all_mem hal p (by simp))
      have hb : listB (rdS d') (Lib.join (T.tellL (p :: ps)) [44] ++ 41 :: r) = contS (rdS d') (Lib.join (T.tellL (p :: ps)) [44] ++ 41 :: r) := by
        unfold listB
        rw [if_neg]
        · rfl
        · rw [T.tellL, Lib.join_cons, h1, List.cons_append, List.cons_append, pre_one]
          simp
          exact fun e => h2 e.symm
      rw [hb, cont_tell (rdS_len d') r ps p IH]
      rfl
  · obtain ⟨rfl, rfl⟩ := of_decide_eq_true hfit2
    rw [tell_67 (.inr rfl)]
    have e : [if (7 : Int) = 7 then (124 : UInt8) else 38, 40] ++ Lib.join (T.tellL ps) [44] ++ [41] ++ r = 124 :: 40 :: (Lib.join (T.tellL ps) [44] ++ 41 :: r) := by simp
    rw [e, rd_r 7 124 (.inr ⟨rfl, rfl⟩) (fun i h1 h2 => by
      have : i = 1 ∨ i = 2 ∨ i = 3 ∨ i = 4 ∨ i = 5 ∨ i = 6 := by omega
      rcases this with rfl | rfl | rfl | rfl | rfl | rfl <;> rfl) rfl, if_pos (show Lib.hasPrefix (124 :: 40 :: (Lib.join (T.tellL ps) [44] ++ 41 :: r)) [124, 40] = true from rfl)]
    show (listB (rdS d') (Lib.join (T.tellL ps) [44] ++ 41 :: r)).map _ = _
    cases ps with
    | nil => rfl
    | cons p ps =>
      obtain ⟨c, l, h1, h2⟩ := tell_head (all_mem hal p (by simp))
      have hb : listB (rdS d') (Lib.join (T.tellL (p :: ps)) [44] ++ 41 :: r) = contS (rdS d') (Lib.join (T.tellL (p :: ps)) [44] ++ 41 :: r) := by
        unfold listB
        rw [if_neg]
        · rfl
        · rw [T.tellL, Lib.join_cons, h1, List.cons_append, List.cons_append, pre_one]
          simp
          exact fun e => h2 e.symm
      rw [hb, cont_tell (rdS_len d') r ps p IH]
      rfl
theorem read_tell {t : T} (hr : t.rightB = true) (hok : t.okN) : readT t.tell = some t := by
  have h := hr
  unfold T.rightB at h
  rw [Bool.and_eq_true, Bool.and_eq_true] at h
  have := rd_tell t 8 [] h.1.1 hok (of_decide_eq_true h.1.2) (fun c hc => by cases hc)
  rw [List.append_nil] at this
  unfold readT
  rw [this]
  simp [hr]

theorem tell_inj {p q : T} (hp : p.rightB = true) (hq : q.rightB = true) (op : p.okN) (oq : q.okN) (h : p.tell = q.tell) : p = q := by
  have h1 := read_tell hp op
  rw [h, read_tell hq oq] at h1
  exact (Option.some.inj h1).symm

end Go.Proofs.YtbcadnkdehknoaaGreatDoor
