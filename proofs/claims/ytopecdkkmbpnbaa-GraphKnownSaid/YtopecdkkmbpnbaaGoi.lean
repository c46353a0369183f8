/-
  Layer 13: GraphPlays' walk.
-/
import Derived.Test.YtopecdkkmbpnbaaGoj
import Derived.Test.YtopecdkkmbpnbaaGrl
import Derived.Deep.CutBlock
import Derived.Deep.CutRange
namespace Go.Proofs.Ytopecdkkmbpnbaa
open Go Go.RowKit Go.Maps
set_option linter.unusedVariables false

set_option maxRecDepth 100000 in
set_option maxHeartbeats 12800000 in
theorem plays13_any {w : World} {nl cl : Nat} {Al : Option Addr} {l : List AcV} (size n m : Int) (h : Rd w w.heap.size 2 Al nl (acC l)) (hok : ∀ e ∈ l, AcOK w w.heap.size e) (hnl : nl ≤ 9223372036854775807) :
    Calls Try.prog 3 #[.int .i64 size, .slice Al nl cl, .int .i64 n, .int .i64 m] w fun e w' => e = .returned (.bool true) ∧ Below w.heap.size w w' := by
  have HW := Lib_hid (fun V : World => works_any V)
  have FW := Lib_hid (few13_any w.heap.size nl cl Al l w h hnl)
  have NW := Lib_hid (pnew_any size w)
  have RN := Lib_hid (fun V : World => rnew_any size V)
  have HAC := Lib_hid (fun (V : World) (hV : Below w.heap.size w V) (i : Nat) (hi : i < nl) => ac_at (h.below hV) hi)
  have HOK : Hid (∀ (V : World), Below w.heap.size w V → ∀ e ∈ l, AcOK V w.heap.size e) := fun V hV e he => (hok e he).below hV
  clear h hok
  go_enter Try.func3, Try.ntmps3
  go_upto_region 1 with (fail)
  by_cases hs1 : 40 < size
  · have d1 : decide ((40 : Int) < size) = true := decide_eq_true hs1
    by_cases hs2 : size ≤ 65536
    · have d2 : decide (size ≤ (65536 : Int)) = true := decide_eq_true hs2
      go_wp2_with fail
      refine (HW.out _).mono ?_
      rintro r w9 ⟨rfl, hb9⟩
      have hb99 := Lib_hid (hb9)
      clear hb9
      go_wp2
      go_ret
      exact ⟨rfl, hb99.out⟩
    · have d2 : decide (size ≤ (65536 : Int)) = false := decide_eq_false hs2
      have HE : Hid (size < 0 ∨ 65536 < size) := by unfold Hid; omega
      go_wp2_with fail
      refine FW.out.mono ?_
      rintro r ws ⟨b, rfl, rfl, hb⟩
      cases b with
      | false =>
        clear hb
        go_wp2_with fail
        refine (HW.out _).mono ?_
        rintro r w9 ⟨rfl, hb9⟩
        have hb99 := Lib_hid (hb9)
        clear hb9
        go_wp2
        go_ret
        exact ⟨rfl, hb99.out⟩
      | true =>
        clear hb
        go_wp2_with fail
        refine NW.out.mono ?_
        rintro r w3 (⟨-, rfl, rfl⟩ | ⟨hgood, -⟩)
        rotate_left
        · exact absurd hgood (by have := HE.out; omega)
        go_wp2_with fail
        refine (RN.out _).mono ?_
        rintro r w4 (⟨-, rfl, hb4⟩ | ⟨hgood, -⟩)
        rotate_left
        · exact absurd hgood (by have := HE.out; omega)
        have H4 := Lib_hid hb4
        clear hb4
        have HB4 : Hid (∀ V : World, Below w4.heap.size w4 V → Below w.heap.size w V) := fun V hV => H4.out.trans (hV.mono H4.out.size)
        have b4 := below_new w4 (.cells #[.int .i64 0, .slice none 0 0] 31)
        have H5 := Lib_hid (HB4.out _ b4)
        clear b4
        go_upto_region 5 with (fail)
        generalize w4.alloc (.cells #[.int .i64 0, .slice none 0 0] 31) = W5 at *
        go_wp2_with fail
        refine (HW.out _).mono ?_
        rintro r w9 ⟨rfl, hb9⟩
        have hb99 := Lib_hid (H5.out.trans (hb9.mono H5.out.size))
        clear hb9
        go_wp2
        go_ret
        exact ⟨rfl, hb99.out⟩
  · have d1 : decide ((40 : Int) < size) = false := decide_eq_false hs1
    by_cases hs2 : size < 0
    · have HE : Hid (size < 0 ∨ 65536 < size) := by unfold Hid; omega
      go_wp2_with fail
      refine FW.out.mono ?_
      rintro r ws ⟨b, rfl, rfl, hb⟩
      cases b with
      | false =>
        clear hb
        go_wp2_with fail
        refine (HW.out _).mono ?_
        rintro r w9 ⟨rfl, hb9⟩
        have hb99 := Lib_hid (hb9)
        clear hb9
        go_wp2
        go_ret
        exact ⟨rfl, hb99.out⟩
      | true =>
        clear hb
        go_wp2_with fail
        refine NW.out.mono ?_
        rintro r w3 (⟨-, rfl, rfl⟩ | ⟨hgood, -⟩)
        rotate_left
        · exact absurd hgood (by have := HE.out; omega)
        go_wp2_with fail
        refine (RN.out _).mono ?_
        rintro r w4 (⟨-, rfl, hb4⟩ | ⟨hgood, -⟩)
        rotate_left
        · exact absurd hgood (by have := HE.out; omega)
        have H4 := Lib_hid hb4
        clear hb4
        have HB4 : Hid (∀ V : World, Below w4.heap.size w4 V → Below w.heap.size w V) := fun V hV => H4.out.trans (hV.mono H4.out.size)
        have b4 := below_new w4 (.cells #[.int .i64 0, .slice none 0 0] 31)
        have H5 := Lib_hid (HB4.out _ b4)
        clear b4
        go_upto_region 5 with (fail)
        generalize w4.alloc (.cells #[.int .i64 0, .slice none 0 0] 31) = W5 at *
        go_wp2_with fail
        refine (HW.out _).mono ?_
        rintro r w9 ⟨rfl, hb9⟩
        have hb99 := Lib_hid (H5.out.trans (hb9.mono H5.out.size))
        clear hb9
        go_wp2
        go_ret
        exact ⟨rfl, hb99.out⟩
    · obtain ⟨N, rfl⟩ : ∃ N : Nat, size = (N : Int) := ⟨size.toNat, by omega⟩
      have HN : Hid (N ≤ 40) := by unfold Hid; omega
      clear hs1 hs2
      go_wp2_with fail
      refine FW.out.mono ?_
      rintro r ws ⟨b, rfl, rfl, hb⟩
      cases b with
      | false =>
        clear hb
        go_wp2_with fail
        refine (HW.out _).mono ?_
        rintro r w9 ⟨rfl, hb9⟩
        have hb99 := Lib_hid (hb9)
        clear hb9
        go_wp2
        go_ret
        exact ⟨rfl, hb99.out⟩
      | true =>
        have HF := Lib_hid (hb rfl)
        clear hb
        go_wp2_with fail
        refine NW.out.mono ?_
        rintro r w3 (⟨hbad, -⟩ | ⟨-, p, S, rfl, hG, hb3, hS⟩)
        · exact absurd hbad (by have := HN.out; omega)
        rw [Int.toNat_natCast] at hG
        go_wp2_with fail
        refine (RN.out _).mono ?_
        rintro r w4 (⟨hbad, -⟩ | ⟨-, rfl, hb4⟩)
        · exact absurd hbad (by have := HN.out; omega)
        have b5 := below_new w4 (.cells #[.int .i64 (N : Int), .slice none 0 0] 31)
        have xb := heap_alloc_new w4 (.cells #[.int .i64 (N : Int), .slice none 0 0] 31)
        have hb34 : Below w.heap.size w w4 := hb3.trans (hb4.mono hb3.size)
        have P5 : Hid (Pst w.heap.size (w4.alloc (.cells #[.int .i64 (N : Int), .slice none 0 0] 31)) p w4.heap.size N S none 0 [] ∧ Below w.heap.size w (w4.alloc (.cells #[.int .i64 (N : Int), .slice none 0 0] 31))) :=
          ⟨⟨(hG.later hb4).later b5, xb, Rd.zero, fun ad e => (by cases e), fun hk => Nat.lt_irrefl _ ((hG.later hb4).lt _ hk), hS, hb34.size⟩, hb34.trans (b5.mono hb34.size)⟩
        clear b5 xb hb34 hb4 hG hb3 hS NW RN
        go_upto_region 5 with (fail)
        generalize w4.alloc (.cells #[.int .i64 (N : Int), .slice none 0 0] 31) = W5 at *
        generalize w4.heap.size = br at *
        go_wp2_with fail
        go_loopw [13] (fun z wr => ∃ (j c : Nat) (S : Nat → Prop) (A : Option Addr) (L : List Ed), z = .int .i64 j ∧ j ≤ nl ∧ Hid (L.length ≤ 12 * j) ∧ Hid (Pst w.heap.size wr p br N S A c L ∧ Below w.heap.size w wr)) (fun z _ => nl - (intOf z).toNat)
        case atStart => exact ⟨0, 0, S, none, [], rfl, Nat.zero_le _, Nat.zero_le _, P5⟩
        case round =>
          obtain ⟨j, c, S, A, L, rfl, hj, hLj, hP⟩ := hrel
          obtain ⟨W1, rfl⟩ : ∃ W1, W1 = wr := ⟨wr, rfl⟩
          by_cases hlj : j < nl
          · have dj : decide ((j : Int) < (nl : Int)) = true := decide_eq_true (by omega)
            have hn20 : nl ≤ 20 := HF.out.1
            obtain ⟨bk, off, a, hA, _, ha, k0, k1⟩ := HAC.out _ hP.out.2 j hlj
            have HAV : Hid ((∀ V : World, Below w.heap.size w V → AcOK V w.heap.size a) ∧ a.n ≤ 12 ∧ True) := ⟨fun V hV => HOK.out V hV a (List.mem_of_getElem? ha), HF.out.2 j a hlj ha, trivial⟩
            have HLL : Hid (L.length ≤ 228) := by have := hLj.out; unfold Hid; omega
            subst hA
            obtain ⟨d, lA, ln, lc, aL⟩ := a
            simp only at k0 k1
            have hji : (j : Int) < (nl : Int) := by omega
            have hj0 : (0 : Int) ≤ (j : Int) := by omega
            have HCO := Lib_hid (fun (V : World) (hV : Below W1.heap.size W1 V) => pcopy_any (hP.out.1.later hV).g (Nat.le_trans HN.out (by decide)) (Nat.le_trans HLL.out (by decide)))
            clear ha
            go_upto_region 13 with (fail)
            have b6 := below_new W1 (.cells #[.int .i64 d, .slice lA ln lc] 36)
            have x6 := heap_alloc_new W1 (.cells #[.int .i64 d, .slice lA ln lc] 36)
            have P6 : Hid (Pst w.heap.size (W1.alloc (.cells #[.int .i64 d, .slice lA ln lc] 36)) p br N S A c L ∧ Below w.heap.size w (W1.alloc (.cells #[.int .i64 d, .slice lA ln lc] 36)) ∧ Below W1.heap.size W1 (W1.alloc (.cells #[.int .i64 d, .slice lA ln lc] 36)) ∧ (W1.alloc (.cells #[.int .i64 d, .slice lA ln lc] 36)).heap[W1.heap.size]? = some (.cells #[.int .i64 d, .slice lA ln lc] 36 (0, 0)) ∧ w.heap.size ≤ W1.heap.size ∧ br < W1.heap.size ∧ ∀ k, S k → k < W1.heap.size) := ⟨hP.out.1.later b6, hP.out.2.trans (b6.mono hP.out.2.size), b6, x6, hP.out.2.size, hP.out.1.bl, hP.out.1.g.lt⟩
            clear b6 x6 hP k0 k1
            generalize W1.alloc (.cells #[.int .i64 d, .slice lA ln lc] 36) = W6 at *
            generalize W1.heap.size = ba at *
            refine wp_region_midTB (N := 175) 5 (fun i v ww => ([fun v ww => v = .pointer (some ⟨p, 0, none⟩), fun v ww => ∃ q R, v = .pointer (some ⟨q, 0, none⟩) ∧ GmIs ww q R N L ∧ ∀ k, R k → W6.heap.size ≤ k, fun v ww => v = .agg #[.int .i64 (N : Int), .slice A L.length c], fun v ww => ∃ g, v = .pointer (some ⟨g, 0, none⟩) ∧ ww.heap[g]? = some (.cells #[.int .i64 0, .slice none 0 0] 31 (0, 0)) ∧ W6.heap.size ≤ g, fun v ww => ∃ q R, v = .pointer (some ⟨q, 0, none⟩) ∧ GmIs ww q R N L ∧ ∀ k, R k → W6.heap.size ≤ k] : List (Value → World → Prop)).getD i (fun _ _ => True) v ww) (by kernel_rfl) (by kernel_rfl) (by kernel_rfl) rfl ?_ ?_ ?_
            · intro i v wa wb h0 hb hp
              by_cases hi : i < 5
              · have hcase : i = 0 ∨ i = 1 ∨ i = 2 ∨ i = 3 ∨ i = 4 := by omega
                rcases hcase with rfl | rfl | rfl | rfl | rfl
                · exact hp
                · obtain ⟨q, R, e, hg, hk⟩ := hp
                  exact ⟨q, R, e, hg.later hb, hk⟩
                · exact hp
                · obtain ⟨g, e, hg, hN⟩ := hp
                  exact ⟨g, e, (hb.block g (Array.getElem?_eq_some_iff.1 hg).1).trans hg, hN⟩
                · obtain ⟨q, R, e, hg, hk⟩ := hp
                  exact ⟨q, R, e, hg.later hb, hk⟩
              · have hnn : ([fun v ww => v = .pointer (some ⟨p, 0, none⟩), fun v ww => ∃ q R, v = .pointer (some ⟨q, 0, none⟩) ∧ GmIs ww q R N L ∧ ∀ k, R k → W6.heap.size ≤ k, fun v ww => v = .agg #[.int .i64 (N : Int), .slice A L.length c], fun v ww => ∃ g, v = .pointer (some ⟨g, 0, none⟩) ∧ ww.heap[g]? = some (.cells #[.int .i64 0, .slice none 0 0] 31 (0, 0)) ∧ W6.heap.size ≤ g, fun v ww => ∃ q R, v = .pointer (some ⟨q, 0, none⟩) ∧ GmIs ww q R N L ∧ ∀ k, R k → W6.heap.size ≤ k] : List (Value → World → Prop))[i]? = none := List.getElem?_eq_none (by simpa using hi)
                rw [List.getD_eq_getElem?_getD, hnn]
                trivial
            · intro i o a wx hi8 hi hM hD
              have hcase : i = 0 ∨ i = 1 ∨ i = 2 ∨ i = 3 ∨ i = 4 := by omega
              clear hi8
              rcases hcase with rfl | rfl | rfl | rfl | rfl
              · obtain rfl := Option.some.inj hi
                have e9 : a.tmps.getD 9 undef = .pointer (some ⟨p, 0, none⟩) := (hM.other 9 (by decide +kernel)).trans rfl
                refine ⟨rfl, mid_step (.pointer (some ⟨p, 0, none⟩)) wx (fun K hK => ?_) ⟨_, rfl, rfl, Below.refl _ _⟩⟩
                go_simp
                exact hK
              · obtain rfl := Option.some.inj hi
                have e72 : a.tmps.getD 72 undef = .pointer (some ⟨p, 0, none⟩) := hD 0 (by kernel_rfl) _ 72 rfl rfl
                refine ⟨rfl, mid_call (fun v w' => (∃ q R, v = .pointer (some ⟨q, 0, none⟩) ∧ GmIs w' q R N L ∧ ∀ k, R k → W6.heap.size ≤ k) ∧ Below wx.heap.size wx w') (fun K hK => ?_) (fun v w' h => ⟨v, rfl, h.1, h.2⟩)⟩
                go_simp
                refine (HCO.out _ (P6.out.2.2.1.trans (hM.below.mono (Nat.le_of_lt (Array.getElem?_eq_some_iff.1 P6.out.2.2.2.1).1)))).mono ?_
                rintro e w' ⟨q, R, rfl, hg, hb', hk⟩
                exact hK _ _ ⟨⟨q, R, rfl, hg, fun k hk' => Nat.le_trans hM.below.size (hk k hk')⟩, hb'⟩
              · obtain rfl := Option.some.inj hi
                have e11 : a.tmps.getD 11 undef = .pointer (some ⟨br, 0, none⟩) := (hM.other 11 (by decide +kernel)).trans rfl
                obtain ⟨q0, q1⟩ := (P6.out.1.later hM.below).cells
                refine ⟨rfl, mid_step (.agg #[.int .i64 (N : Int), .slice A L.length c]) wx (fun K hK => ?_) ⟨_, rfl, rfl, Below.refl _ _⟩⟩
                go_simp
                exact hK
              · obtain rfl := Option.some.inj hi
                refine ⟨rfl, mid_step (.pointer (some ⟨wx.heap.size, 0, none⟩)) (wx.alloc (.cells #[.int .i64 0, .slice none 0 0] 31)) (fun K hK => ?_) ⟨_, rfl, ⟨_, rfl, heap_alloc_new _ _, hM.below.size⟩, below_new _ _⟩⟩
                go_simp
                exact hK
              · obtain rfl := Option.some.inj hi
                obtain ⟨q, R, e73, hg, hk⟩ := hD 1 (by kernel_rfl) _ 73 rfl rfl
                refine ⟨rfl, mid_step (.pointer (some ⟨q, 0, none⟩)) wx (fun K hK => ?_) ⟨_, rfl, ⟨q, R, rfl, hg, hk⟩, Below.refl _ _⟩⟩
                go_simp
                exact hK
            · intro a wx hM hU hD
              have q0 := hD 0 (by decide) _ 72 rfl rfl
              obtain ⟨pc, Sc, e1r, hgc, hkc⟩ := hD 1 (by decide) _ 73 rfl rfl
              have q1 : a.tmps.getD 73 undef = .pointer (some ⟨pc, 0, none⟩) := by assumption
              have q2 := hD 2 (by decide) _ 74 rfl rfl
              obtain ⟨bw, e3z, hbw, hbwN⟩ := hD 3 (by decide) _ 16 rfl rfl
              have q3 : a.tmps.getD 16 undef = .pointer (some ⟨bw, 0, none⟩) := by assumption
              obtain ⟨pc2, Sc2, e4r, hgc2, hkc2⟩ := hD 4 (by decide) _ 15 rfl rfl
              have q4 : a.tmps.getD 15 undef = .pointer (some ⟨pc2, 0, none⟩) := by assumption
              have hact := act_puts (a := a) [(72, .pointer (some ⟨p, 0, none⟩)), (73, .pointer (some ⟨pc, 0, none⟩)), (74, .agg #[.int .i64 (N : Int), .slice A L.length c]), (16, .pointer (some ⟨bw, 0, none⟩)), (15, .pointer (some ⟨pc2, 0, none⟩))] _ hM.tmps hM.defers (by
                intro s v hm
                simp only [List.mem_cons, Prod.mk.injEq, List.not_mem_nil, or_false] at hm
                rcases hm with ⟨rfl, rfl⟩ | ⟨rfl, rfl⟩ | ⟨rfl, rfl⟩ | ⟨rfl, rfl⟩ | ⟨rfl, rfl⟩
                · exact ⟨(by show 72 < 175; decide), q0⟩
                · exact ⟨(by show 73 < 175; decide), q1⟩
                · exact ⟨(by show 74 < 175; decide), q2⟩
                · exact ⟨(by show 16 < 175; decide), q3⟩
                · exact ⟨(by show 15 < 175; decide), q4⟩) (fun s hs => hM.other s (by exact hs))
              rw [hact]
              have hBX := hM.below
              clear hact hD hM hU q0 q1 q2 q3 q4
              simp only [List.foldl, Act.put, List.setIfInBounds_toArray, List.set_cons_succ, List.set_cons_zero, List.drop_succ_cons, List.drop_zero]
              have f0 := frozen_of_row _ _ 0 _ _ hbw
              have f1 := frozen_of_row _ _ 1 _ _ hbw
              have y0 := cell_of_row _ _ 0 _ _ _ hbw
              have y1 := cell_of_row _ _ 1 _ _ _ hbw
              obtain ⟨z1, z2, z3, z4⟩ := box2_write (.int .i64 (N : Int)) (.slice A L.length c) hbw
              have hgo := hgc2.off hbw (by decide) (by decide) (by decide)
              have hbU := z4 _ _ hBX hbwN
              go_upto_region 14 with (fail)
              clear f0 f1 y0 y1
              have HU0 : Hid (Below W6.heap.size W6 ((wx.setCell ⟨bw, 0, none⟩ (.int .i64 (N : Int))).setCell ⟨bw, 1, none⟩ (.slice A L.length c)) ∧ GmIs ((wx.setCell ⟨bw, 0, none⟩ (.int .i64 (N : Int))).setCell ⟨bw, 1, none⟩ (.slice A L.length c)) pc2 (fun k => Sc2 k ∧ k ≠ bw) N L ∧ ((wx.setCell ⟨bw, 0, none⟩ (.int .i64 (N : Int))).setCell ⟨bw, 1, none⟩ (.slice A L.length c)).heap[bw]? = some (.cells #[.int .i64 (N : Int), .slice A L.length c] 31 (0, 0)) ∧ (∀ k, Sc2 k ∧ k ≠ bw → W6.heap.size ≤ k) ∧ W6.heap.size ≤ bw) := ⟨hbU, hgo.keep (Nat.le_of_eq z3.symm) (fun k _ hk => z2 k hk.2), z1, fun k hk => hkc2 k hk.1, hbwN⟩
              clear z1 z2 z3 z4 hgo hbU hgc hkc hgc2 hkc2 hbw hbwN hBX e1r e3z e4r
              generalize (wx.setCell ⟨bw, 0, none⟩ (.int .i64 (N : Int))).setCell ⟨bw, 1, none⟩ (.slice A L.length c) = U0 at *
              obtain ⟨Sc9, HSc9⟩ : ∃ Sc9 : Nat → Prop, Hid (GmIs U0 pc2 Sc9 N L ∧ (∀ k, Sc9 k → W6.heap.size ≤ k)) := ⟨_, HU0.out.2.1, HU0.out.2.2.2.1⟩
              have bE := below_new U0 (.cells #[.int .i64 0, .int .i64 0, .int .i64 0] 39)
              have xE := heap_alloc_new U0 (.cells #[.int .i64 0, .int .i64 0, .int .i64 0] 39)
              have hRE : Rnd w.heap.size ba w (U0.alloc (.cells #[.int .i64 0, .int .i64 0, .int .i64 0] 39)) p br N S A c L pc2 bw U0.heap.size Sc9 0 0 0 d lA ln lc := by
                have hb := HU0.out.1.trans (bE.mono HU0.out.1.size)
                have hP := P6.out.1.later hb
                exact ⟨hP, ⟨HSc9.out.1.later bE, (bE.block _ (Array.getElem?_eq_some_iff.1 HU0.out.2.2.1).1).trans HU0.out.2.2.1, hP.rd, xE⟩, P6.out.2.1.trans (hb.mono P6.out.2.1.size), (hb.block _ (Array.getElem?_eq_some_iff.1 P6.out.2.2.2.1).1).trans P6.out.2.2.2.1⟩
              have CK : Hid ((∀ k, S k → k < ba) ∧ (∀ k, Sc9 k → ba ≤ k) ∧ ba ≤ bw ∧ ba ≤ U0.heap.size ∧ br < ba) := by
                have h1 : ba < W6.heap.size := (Array.getElem?_eq_some_iff.1 P6.out.2.2.2.1).1
                exact ⟨P6.out.2.2.2.2.2.2, fun k hk => by have := HSc9.out.2 k hk; omega, by have := HU0.out.2.2.2.2; omega, by have := HU0.out.1.size; omega, P6.out.2.2.2.2.2.1⟩
              have HAX : Hid (∀ ad, A = some ad → ad.block ≠ U0.heap.size) := fun ad hA e => by have h1 := (P6.out.1.ap ad hA).2.2; have h2 := HU0.out.1.size; omega
              have HSX : Hid (∀ k, Sc9 k → k ≠ U0.heap.size) := fun k hk e => by have h1 := HSc9.out.1.lt k hk; omega
              have HBXL : Hid (w.heap.size ≤ U0.heap.size) := Nat.le_trans P6.out.2.1.size HU0.out.1.size
              have HRE := Lib_hid hRE
              clear bE xE hRE HSc9 HU0 P6 HCO
              go_upto_region 15 with (fail)
              generalize U0.alloc (.cells #[.int .i64 0, .int .i64 0, .int .i64 0] 39) = WE at *
              generalize U0.heap.size = bx at *
              have k1 := cell_of_row _ _ 1 _ _ _ HRE.out.a
              go_upto_if 78 with (fail)
              go_cut [17] from 78 to 82 (fun v V => v = .pointer (some ⟨bx, 0, none⟩) ∧ ∃ x1 x2 x3 : Int, Hid (EdOk (x1, x2, x3)) ∧ Hid (Rnd w.heap.size ba w V p br N S A c L pc2 bw bx Sc9 x1 x2 x3 d lA ln lc))
              case first =>
                by_cases h0 : 0 < ln
                · have d0 : decide ((0 : Int) < (ln : Int)) = true := decide_eq_true (by omega)
                  have d0' : decide (0 < ln) = true := decide_eq_true h0
                  obtain ⟨b', o', hA', _, e0, e1, e2⟩ := e_at (HAV.out.1 WE HRE.out.b).l h0
                  have e0' : WE.cell? ⟨b', o', none⟩ = some (.int .i64 (at3 aL 0).1) := by simpa using e0
                  have e1' : WE.cell? ⟨b', o' + 1, none⟩ = some (.int .i64 (at3 aL 0).2.1) := by simpa using e1
                  have e2' : WE.cell? ⟨b', o' + 2, none⟩ = some (.int .i64 (at3 aL 0).2.2) := by simpa using e2
                  have hxo : EdOk ((at3 aL 0).1, (at3 aL 0).2.1, (at3 aL 0).2.2) := (HAV.out.1 WE HRE.out.b).ok _ (at3_mem (by rw [rde_count (HAV.out.1 WE HRE.out.b).l]; exact h0))
                  have hln0 : (0 : Int) < (ln : Int) := by omega
                  subst hA'
                  clear e0 e1 e2
                  generalize (at3 aL 0).1 = x1 at *
                  generalize (at3 aL 0).2.1 = x2 at *
                  generalize (at3 aL 0).2.2 = x3 at *
                  have f0 := frozen_of_row _ _ 0 _ _ HRE.out.W.x
                  have f1 := frozen_of_row _ _ 1 _ _ HRE.out.W.x
                  have f2 := frozen_of_row _ _ 2 _ _ HRE.out.W.x
                  have y0 := cell_of_row _ _ 0 _ _ _ HRE.out.W.x
                  have y1 := cell_of_row _ _ 1 _ _ _ HRE.out.W.x
                  have y2 := cell_of_row _ _ 2 _ _ _ HRE.out.W.x
                  obtain ⟨z1, z2, z3, z4⟩ := box3_write (.int .i64 x1) (.int .i64 x2) (.int .i64 x3) HRE.out.W.x
                  have hnew : Rnd w.heap.size ba w (((WE.setCell ⟨bx, 0, none⟩ (.int .i64 x1)).setCell ⟨bx, 1, none⟩ (.int .i64 x2)).setCell ⟨bx, 2, none⟩ (.int .i64 x3)) p br N S A c L pc2 bw bx Sc9 x1 x2 x3 d (some ⟨b', o', none⟩) ln lc := by
                    have hne : bw ≠ bx := fun e => by have h1 := HRE.out.W.w; rw [e, HRE.out.W.x] at h1; injection h1 with h1; injection h1 with _ h1 _; exact absurd h1 (by decide)
                    have hbr : br ≠ bx := fun e => by have h1 := HRE.out.P.x; rw [e, HRE.out.W.x] at h1; injection h1 with h1; injection h1 with _ h1 _; exact absurd h1 (by decide)
                    have hba : ba ≠ bx := fun e => by have h1 := HRE.out.a; rw [e, HRE.out.W.x] at h1; injection h1 with h1; injection h1 with _ h1 _; exact absurd h1 (by decide)
                    refine ⟨HRE.out.P.keep (Nat.le_of_eq z3.symm) (fun k _ hk => z2 k (fun e => ?_)) (z2 _ hbr) (fun ad hA _ => z2 _ (HAX.out ad hA)), ⟨HRE.out.W.g.keep (Nat.le_of_eq z3.symm) (fun k _ hk => z2 k (HSX.out k hk)), (z2 _ hne).trans HRE.out.W.w, Rd.offD HRE.out.W.rd (fun ad hA _ => z2 _ (HAX.out ad hA)) (Nat.le_of_eq z3.symm), z1⟩, z4 _ _ HRE.out.b HBXL.out, (z2 _ hba).trans HRE.out.a⟩
                    have h1 := CK.out.1 k hk
                    have h2 := CK.out.2.2.2.1
                    omega
                  have HNW := Lib_hid (And.intro hxo hnew)
                  clear z1 z2 z3 z4 hnew hxo
                  go_wp2_with fail
                  go_meet
                  first
                  | exact ⟨rfl, x1, x2, x3, HNW.out.1, HNW.out.2⟩
                  | exact ⟨⟨rfl, x1, x2, x3, HNW.out.1, HNW.out.2⟩, rfl⟩
                  | ((repeat apply Exists.intro); exact ⟨⟨rfl, x1, x2, x3, HNW.out.1, HNW.out.2⟩, rfl⟩)
                · have d0 : decide ((0 : Int) < (ln : Int)) = false := decide_eq_false (by omega)
                  have d0' : decide (0 < ln) = false := decide_eq_false h0
                  have hz : Hid (EdOk ((0 : Int), (0 : Int), (0 : Int))) := ed_small (by decide)
                  go_wp2_with fail
                  go_meet
                  first
                  | exact ⟨rfl, 0, 0, 0, hz, HRE⟩
                  | exact ⟨⟨rfl, 0, 0, 0, hz, HRE⟩, rfl⟩
                  | ((repeat apply Exists.intro); exact ⟨⟨rfl, 0, 0, 0, hz, HRE⟩, rfl⟩)
              case rest =>
                obtain ⟨rfl, x1, x2, x3, HXO, HR9⟩ := hcut
                rename World => V9
                clear k1 HRE HSX HAX HBXL
                obtain ⟨pc, hpc⟩ : ∃ pc, pc = pc2 := ⟨_, rfl⟩
                obtain ⟨Sc, hSc⟩ : ∃ Sc, Sc = Sc9 := ⟨_, rfl⟩
                subst hpc
                subst hSc
                have k0 := cell_of_row _ _ 0 _ _ _ HR9.out.a
                have PK := Lib_hid (fun V : World => gpick_any d 4 V (by decide) (by decide))
                go_wp2_with fail
                refine (PK.out _).mono ?_
                rintro r ws ⟨kk, rfl, hkk, rfl⟩
                clear PK k0
                go_upto_if 86 with (fail)
                go_cut [18, 19, 20, 21, 22, 23, 24, 25, 26] from 86 to 144 (fun _ _ _ _ _ _ _ _ _ V => ∃ (S9 : Nat → Prop) (A9 : Option Addr) (c9 : Nat) (LL : List Ed), Hid (LL.length ≤ L.length + 12) ∧ Hid (Pst w.heap.size V p br N S9 A9 c9 LL ∧ Was V pc bw bx N Sc A c L x1 x2 x3 ∧ Below w.heap.size w V))
                case first =>
                  obtain ⟨i0, hi, hz0, hz1, hz2⟩ := info_parts Try.infoE
                  have hln12 : ln ≤ 12 := HAV.out.2.1
                  by_cases h3 : kk < 3
                  · have d3 : decide ((kk : Int) < 3) = true := decide_eq_true (by omega)
                    have d3' : decide (kk < 3) = true := decide_eq_true h3
                    have h3i : (kk : Int) < 3 := by omega
                    clear h3 hkk
                    have HAL := Lib_hid (HAV.out.1 V9 HR9.out.b).l
                    have k1 := cell_of_row _ _ 1 _ _ _ HR9.out.a
                    have hm1 : 0 + ln ≤ maxLen := by unfold maxLen; omega
                    have hmb : (0 + ln) * 24 ≤ 140737488355328 := by omega
                    go_upto_region 20 with (at_builtin; (refine wpList_app rfl _ _ 34 rfl V9.heap.size 39 i0 (.agg #[.int .i64 0, .int .i64 0, .int .i64 0]) 3 24 Try.underlying34 hi hz0 hz1 hz2 rfl (by decide) _ 0 _ rfl (own_zero V9 V9.heap.size 39 3) w.heap.size lA ln lc (ec aL) rfl HAL.out (ec_one _) hm1 hmb (Nat.le_refl _) ?_); intro v' w10 hown hst; obtain ⟨Ao, co, rfl⟩ := own_form' hown)
                    have hown2 : w10.ownsRow V9.heap.size 39 3 (.slice Ao ln co) ln (ec aL) := by simpa using hown
                    have hb10 : Below V9.heap.size V9 w10 := (Below.refl _ _).grown hst.grow (Nat.le_refl _) (own_ge (own_zero V9 V9.heap.size 39 3))
                    clear hst k1 hm1 hmb HAL
                    have hsz9 : w.heap.size ≤ V9.heap.size := HR9.out.b.size
                    have HR10 : Hid (∀ V : World, Below w10.heap.size w10 V → Rnd w.heap.size ba w V p br N S A c L pc bw bx Sc x1 x2 x3 d lA ln lc) := fun V hV => (HR9.out.later hsz9 hb10).later (Nat.le_trans hsz9 hb10.size) hV
                    have HOW : Hid (w10.ownsRow V9.heap.size 39 3 (.slice Ao ln co) ln (ec aL)) := hown2
                    have HSZ := Lib_hid (And.intro hsz9 hb10.size)
                    clear hown hown2 hb10 hsz9
                    obtain ⟨LL, cnt, code, hll, hra, hpa⟩ := add_both (N := N) (L := L) (aL := aL) (ln := ln) (Nat.le_trans HN.out (by decide)) (Nat.le_trans HLL.out (by decide)) (rde_count (HAV.out.1 V9 HR9.out.b).l) HAV.out.2.1 (HAV.out.1 V9 HR9.out.b).ok
                    have HRA := Lib_hid hra
                    have HPA := Lib_hid hpa
                    have HLLL := Lib_hid hll
                    clear hra hpa hll
                    have HAP : Hid (∀ (V : World), Below w10.heap.size w10 V → ∀ {A6 : Option Addr}, Rd V V.heap.size 3 A6 LL.length (ec LL) → (A6 = A ∧ LL = L ∨ 0 < LL.length ∧ ∀ ad, A6 = some ad → w10.heap.size ≤ ad.block) → ∀ ad, A6 = some ad → ¬ S ad.block ∧ ad.block ≠ br ∧ ad.block < V.heap.size) := fun V hV A6 hr hh ad hA => by
                      rcases hh with ⟨h1, h2⟩ | ⟨h1, h2⟩
                      · exact (HR10.out V hV).P.ap ad (by rw [← h1]; exact hA)
                      · have h3 := h2 ad hA
                        refine ⟨fun hk => ?_, fun e => ?_, hr.lt_of h1 ad hA⟩
                        · have := (HR10.out _ (Below.refl _ _)).P.g.lt _ hk; omega
                        · have := (HR10.out _ (Below.refl _ _)).P.bl; omega
                    go_upto_region 20 with (fail)
                    refine wp_region_midJ (N := 175) 6 (fun i v ww => ([fun v ww => v = .agg #[.int .i64 (N : Int), .slice A L.length c], fun v ww => v = .pointer (some ⟨ba, 1, none⟩), fun v ww => v = .slice lA ln lc, fun v ww => ∃ A1 c1 B1, v = .slice A1 ln c1 ∧ Rd ww B1 3 A1 ln (ec aL) ∧ B1 ≤ ww.heap.size, fun v ww => ∃ A' c', v = .tuple #[.agg #[.int .i64 (N : Int), .slice A' LL.length c'], .int .i64 cnt, .int .i64 code] ∧ Rd ww ww.heap.size 3 A' LL.length (ec LL) ∧ (A' = A ∧ LL = L ∨ 0 < LL.length ∧ ∀ ad, A' = some ad → w10.heap.size ≤ ad.block), fun v ww => ∃ A' c', v = .tuple #[.agg #[.int .i64 (N : Int), .slice A' LL.length c'], .int .i64 cnt, .int .i64 code] ∧ Rd ww ww.heap.size 3 A' LL.length (ec LL) ∧ (A' = A ∧ LL = L ∨ 0 < LL.length ∧ ∀ ad, A' = some ad → w10.heap.size ≤ ad.block), fun v ww => ∃ A' c', v = .agg #[.int .i64 (N : Int), .slice A' LL.length c'] ∧ Rd ww ww.heap.size 3 A' LL.length (ec LL) ∧ (A' = A ∧ LL = L ∨ 0 < LL.length ∧ ∀ ad, A' = some ad → w10.heap.size ≤ ad.block), fun v ww => v = .int .i64 cnt, fun v ww => v = .int .i64 code, fun v ww => True, fun v ww => True, fun v ww => v = .int .i64 cnt, fun v ww => v = .int .i64 code] : List (Value → World → Prop)).getD i (fun _ _ => True) v ww) (BoxK 31 2 w10.heap.size) (Box1J 31 w10.heap.size 19 97 9 6 10) (by kernel_rfl) (by kernel_rfl) rfl ?_ ?_ ?_ ?_ ?_ ?_ ?_
                    · exact fun _ _ hb => BoxK.of hb
                    · intro i v wa wb h0 hb hp
                      by_cases hi : i < 13
                      · have hcase : i = 0 ∨ i = 1 ∨ i = 2 ∨ i = 3 ∨ i = 4 ∨ i = 5 ∨ i = 6 ∨ i = 7 ∨ i = 8 ∨ i = 9 ∨ i = 10 ∨ i = 11 ∨ i = 12 := by omega
                        rcases hcase with rfl | rfl | rfl | rfl | rfl | rfl | rfl | rfl | rfl | rfl | rfl | rfl | rfl
                        · exact hp
                        · exact hp
                        · exact hp
                        · obtain ⟨A1, c1, B1, e, hr, hB1⟩ := hp
                          exact ⟨A1, c1, B1, e, hr.boxk hB1 hb, Nat.le_trans hB1 hb.1⟩
                        · obtain ⟨A', c', e, hr, ha⟩ := hp
                          exact ⟨A', c', e, (hr.boxk (Nat.le_refl _) hb).more hb.1, ha⟩
                        · obtain ⟨A', c', e, hr, ha⟩ := hp
                          exact ⟨A', c', e, (hr.boxk (Nat.le_refl _) hb).more hb.1, ha⟩
                        · obtain ⟨A', c', e, hr, ha⟩ := hp
                          exact ⟨A', c', e, (hr.boxk (Nat.le_refl _) hb).more hb.1, ha⟩
                        · exact hp
                        · exact hp
                        · exact hp
                        · exact hp
                        · exact hp
                        · exact hp
                      · have hnn : ([fun v ww => v = .agg #[.int .i64 (N : Int), .slice A L.length c], fun v ww => v = .pointer (some ⟨ba, 1, none⟩), fun v ww => v = .slice lA ln lc, fun v ww => ∃ A1 c1 B1, v = .slice A1 ln c1 ∧ Rd ww B1 3 A1 ln (ec aL) ∧ B1 ≤ ww.heap.size, fun v ww => ∃ A' c', v = .tuple #[.agg #[.int .i64 (N : Int), .slice A' LL.length c'], .int .i64 cnt, .int .i64 code] ∧ Rd ww ww.heap.size 3 A' LL.length (ec LL) ∧ (A' = A ∧ LL = L ∨ 0 < LL.length ∧ ∀ ad, A' = some ad → w10.heap.size ≤ ad.block), fun v ww => ∃ A' c', v = .tuple #[.agg #[.int .i64 (N : Int), .slice A' LL.length c'], .int .i64 cnt, .int .i64 code] ∧ Rd ww ww.heap.size 3 A' LL.length (ec LL) ∧ (A' = A ∧ LL = L ∨ 0 < LL.length ∧ ∀ ad, A' = some ad → w10.heap.size ≤ ad.block), fun v ww => ∃ A' c', v = .agg #[.int .i64 (N : Int), .slice A' LL.length c'] ∧ Rd ww ww.heap.size 3 A' LL.length (ec LL) ∧ (A' = A ∧ LL = L ∨ 0 < LL.length ∧ ∀ ad, A' = some ad → w10.heap.size ≤ ad.block), fun v ww => v = .int .i64 cnt, fun v ww => v = .int .i64 code, fun v ww => True, fun v ww => True, fun v ww => v = .int .i64 cnt, fun v ww => v = .int .i64 code] : List (Value → World → Prop))[i]? = none := List.getElem?_eq_none (by simpa using hi)
                        rw [List.getD_eq_getElem?_getD, hnn]
                        trivial
                    · exact Box1J.start _ _
                    · intro i o Ls a v wx w' hi8 hi hM hJ hb
                      have hcase : i = 0 ∨ i = 1 ∨ i = 2 ∨ i = 3 ∨ i = 4 ∨ i = 5 := by omega
                      clear hi8
                      rcases hcase with rfl | rfl | rfl | rfl | rfl | rfl
                      · obtain rfl := Option.some.inj hi
                        exact hJ.step hb (by decide) (by decide) (by decide) (by decide) (by decide)
                      · obtain rfl := Option.some.inj hi
                        exact hJ.step hb (by decide) (by decide) (by decide) (by decide) (by decide)
                      · obtain rfl := Option.some.inj hi
                        exact hJ.step hb (by decide) (by decide) (by decide) (by decide) (by decide)
                      · obtain rfl := Option.some.inj hi
                        exact hJ.step hb (by decide) (by decide) (by decide) (by decide) (by decide)
                      · obtain rfl := Option.some.inj hi
                        exact hJ.step hb (by decide) (by decide) (by decide) (by decide) (by decide)
                      · obtain rfl := Option.some.inj hi
                        exact hJ.step hb (by decide) (by decide) (by decide) (by decide) (by decide)
                    · intro i o a wx hi8 hi hM hD
                      have hcase : i = 0 ∨ i = 1 ∨ i = 2 ∨ i = 3 ∨ i = 4 ∨ i = 5 := by omega
                      clear hi8
                      rcases hcase with rfl | rfl | rfl | rfl | rfl | rfl
                      · obtain rfl := Option.some.inj hi
                        have e11 : a.tmps.getD 11 undef = .pointer (some ⟨br, 0, none⟩) := (hM.other 11 (by decide +kernel)).trans rfl
                        have hRX := HR10.out _ hM.below
                        obtain ⟨q0, q1⟩ := hRX.P.cells
                        have k1 := cell_of_row _ _ 1 _ _ _ hRX.a
                        refine ⟨rfl, mid_step (.agg #[.int .i64 (N : Int), .slice A L.length c]) wx (fun K hK => ?_) ⟨_, rfl, rfl, Below.refl _ _⟩⟩
                        go_simp
                        exact hK
                      · obtain rfl := Option.some.inj hi
                        have e14 : a.tmps.getD 14 undef = .pointer (some ⟨ba, 0, none⟩) := (hM.other 14 (by decide +kernel)).trans rfl
                        refine ⟨rfl, mid_step (.pointer (some ⟨ba, 1, none⟩)) wx (fun K hK => ?_) ⟨_, rfl, rfl, Below.refl _ _⟩⟩
                        go_simp
                        exact hK
                      · obtain rfl := Option.some.inj hi
                        have e93 : a.tmps.getD 93 undef = .pointer (some ⟨ba, 1, none⟩) := hD 1 (by kernel_rfl) _ 93 rfl rfl
                        have hRX := HR10.out _ hM.below
                        obtain ⟨q0, q1⟩ := hRX.P.cells
                        have k1 := cell_of_row _ _ 1 _ _ _ hRX.a
                        refine ⟨rfl, mid_step (.slice lA ln lc) wx (fun K hK => ?_) ⟨_, rfl, rfl, Below.refl _ _⟩⟩
                        go_simp
                        exact hK
                      · obtain rfl := Option.some.inj hi
                        have e94 : a.tmps.getD 94 undef = .slice lA ln lc := hD 2 (by kernel_rfl) _ 94 rfl rfl
                        refine ⟨rfl, mid_call (fun v w' => (∃ A1 c1 B1, v = .slice A1 ln c1 ∧ Rd w' B1 3 A1 ln (ec aL) ∧ B1 ≤ w'.heap.size) ∧ Below wx.heap.size wx w') (fun K hK => ?_) (fun v w' h => ⟨v, rfl, h.1, h.2⟩)⟩
                        go_simp
                        refine (redges_any (c := lc) (HAV.out.1 wx (HR10.out _ hM.below).b).l (HR10.out _ hM.below).b.size (Nat.le_trans HAV.out.2.1 (by decide))).mono ?_
                        rintro e w' ⟨A1, c1, rfl, ho, hb'⟩
                        exact hK _ _ ⟨⟨A1, c1, w'.heap.size, rfl, Rd.own ho, Nat.le_refl _⟩, hb'⟩
                      · obtain rfl := Option.some.inj hi
                        have e92 : a.tmps.getD 92 undef = .agg #[.int .i64 (N : Int), .slice A L.length c] := hD 0 (by kernel_rfl) _ 92 rfl rfl
                        obtain ⟨A1, c1, B1, e95, hr, hB1⟩ := hD 3 (by kernel_rfl) _ 95 rfl rfl
                        refine ⟨rfl, mid_call (fun v w' => (∃ A' c', v = .tuple #[.agg #[.int .i64 (N : Int), .slice A' LL.length c'], .int .i64 cnt, .int .i64 code] ∧ Rd w' w'.heap.size 3 A' LL.length (ec LL) ∧ (A' = A ∧ LL = L ∨ 0 < LL.length ∧ ∀ ad, A' = some ad → w10.heap.size ≤ ad.block)) ∧ Below wx.heap.size wx w') (fun K hK => ?_) (fun v w' h => ⟨v, rfl, h.1, h.2⟩)⟩
                        go_simp
                        refine (HRA.out wx A A1 c c1 (HR10.out _ hM.below).P.rd (hr.more hB1)).mono ?_
                        rintro e w' ⟨⟨A', c', rfl, hr', ha'⟩, hb'⟩
                        exact hK _ _ ⟨⟨A', c', rfl, hr', ha'.imp id fun hh => ⟨hh.1, fun ad e => Nat.le_trans hM.below.size (hh.2 ad e)⟩⟩, hb'⟩
                      · obtain rfl := Option.some.inj hi
                        obtain ⟨A', c', e96, hr, ha⟩ := hD 4 (by kernel_rfl) _ 96 rfl rfl
                        refine ⟨rfl, mid_step (.tuple #[.agg #[.int .i64 (N : Int), .slice A' LL.length c'], .int .i64 cnt, .int .i64 code]) wx (fun K hK => ?_) ⟨_, rfl, ⟨A', c', rfl, hr, ha⟩, Below.refl _ _⟩⟩
                        go_simp
                        exact hK
                    · intro i o Ls a wx hi8 hi hL hM hJ hD
                      have hi9 : i < 13 := (Array.getElem?_eq_some_iff.1 hi).1
                      have hcase : i = 6 ∨ i = 7 ∨ i = 8 ∨ i = 9 ∨ i = 10 ∨ i = 11 ∨ i = 12 := by omega
                      clear hi8 hi9
                      rcases hcase with rfl | rfl | rfl | rfl | rfl | rfl | rfl
                      · obtain rfl := Option.some.inj hi
                        obtain ⟨A', c', e91, hr, ha⟩ := (hD 5 (by kernel_rfl)).2 _ 91 rfl rfl
                        refine ⟨rfl, mid_step (.agg #[.int .i64 (N : Int), .slice A' LL.length c']) wx (fun K hK => ?_) ⟨_, rfl, ⟨A', c', rfl, hr, ha⟩, BoxK.of (Below.refl _ _), hM.below, hJ.val (Below.refl _ _) hL (by decide) (by decide) (by decide)⟩⟩
                        go_simp
                        exact hK
                      · obtain rfl := Option.some.inj hi
                        obtain ⟨A', c', e91, hr, ha⟩ := (hD 5 (by kernel_rfl)).2 _ 91 rfl rfl
                        refine ⟨rfl, mid_step (.int .i64 cnt) wx (fun K hK => ?_) ⟨_, rfl, rfl, BoxK.of (Below.refl _ _), hM.below, hJ.step (Below.refl _ _) (by decide) (by decide) (by decide) (by decide) (by decide)⟩⟩
                        go_simp
                        exact hK
                      · obtain rfl := Option.some.inj hi
                        obtain ⟨A', c', e91, hr, ha⟩ := (hD 5 (by kernel_rfl)).2 _ 91 rfl rfl
                        refine ⟨rfl, mid_step (.int .i64 code) wx (fun K hK => ?_) ⟨_, rfl, rfl, BoxK.of (Below.refl _ _), hM.below, hJ.step (Below.refl _ _) (by decide) (by decide) (by decide) (by decide) (by decide)⟩⟩
                        go_simp
                        exact hK
                      · obtain rfl := Option.some.inj hi
                        refine ⟨rfl, mid_step (.pointer (some ⟨wx.heap.size, 0, none⟩)) (wx.alloc (.cells #[.int .i64 0, .slice none 0 0] 31)) (fun K hK => ?_) ⟨_, rfl, trivial, BoxK.of (below_new _ _), hM.below.trans ((below_new _ _).mono hM.below.size), hJ.make (Nat.lt_of_lt_of_eq (show 19 < 175 by decide) (hM.tmps.trans rfl).symm) hL (by decide) (by decide) hM.below.size⟩⟩
                        go_simp
                        exact hK
                      · obtain rfl := Option.some.inj hi
                        obtain ⟨A', c', e97, hr, ha⟩ := (hD 6 (by kernel_rfl)).2 _ 97 rfl rfl
                        have l9 := (hD 9 (by kernel_rfl)).1
                        have l6 := (hD 6 (by kernel_rfl)).1
                        have hJ2 := hJ
                        obtain ⟨-, J2⟩ := hJ2
                        obtain ⟨g, z0, z1, e19, hgW, hg, -⟩ := J2 l9
                        clear J2
                        have f0 := frozen_of_row _ _ 0 _ _ hg
                        have f1 := frozen_of_row _ _ 1 _ _ hg
                        have c0 := cell_of_row _ _ 0 _ _ _ hg
                        have c1 := cell_of_row _ _ 1 _ _ _ hg
                        obtain ⟨u1, u2, u3, u4⟩ := box2_write (.int .i64 (N : Int)) (.slice A' LL.length c') hg
                        refine ⟨rfl, mid_step undef ((wx.setCell ⟨g, 0, none⟩ (.int .i64 (N : Int))).setCell ⟨g, 1, none⟩ (.slice A' LL.length c')) (fun K hK => ?_) ⟨_, rfl, trivial, ⟨Nat.le_of_eq u3.symm, fun k _ => ?_⟩, u4 _ _ hM.below hgW, hJ.write l9 l6 e97 (by decide) (by decide) (fun g' y0 y1 e' hg' => ?_) undef⟩⟩
                        · have hK2 : K a _ := hK
                          go_simp
                          exact hK2
                        · by_cases hk : k = g
                          · subst hk; exact .inr ⟨hgW, _, rfl, hg⟩
                          · exact .inl (u2 k hk)
                        · obtain rfl : g' = g := by rw [e19] at e'; injection e' with e'; injection e' with e'; injection e' with e' _ _; exact e'.symm
                          exact u1
                      · obtain rfl := Option.some.inj hi
                        have e98 : a.tmps.getD 98 undef = .int .i64 cnt := (hD 7 (by kernel_rfl)).2 _ 98 rfl rfl
                        refine ⟨rfl, mid_step (.int .i64 cnt) wx (fun K hK => ?_) ⟨_, rfl, rfl, BoxK.of (Below.refl _ _), hM.below, hJ.step (Below.refl _ _) (by decide) (by decide) (by decide) (by decide) (by decide)⟩⟩
                        go_simp
                        exact hK
                      · obtain rfl := Option.some.inj hi
                        have e99 : a.tmps.getD 99 undef = .int .i64 code := (hD 8 (by kernel_rfl)).2 _ 99 rfl rfl
                        refine ⟨rfl, mid_step (.int .i64 code) wx (fun K hK => ?_) ⟨_, rfl, rfl, BoxK.of (Below.refl _ _), hM.below, hJ.step (Below.refl _ _) (by decide) (by decide) (by decide) (by decide) (by decide)⟩⟩
                        go_simp
                        exact hK
                    · intro Ls a wx hM hJ hD
                      have q0 := (hD 0 (by decide)).2 _ 92 rfl rfl
                      have q1 := (hD 1 (by decide)).2 _ 93 rfl rfl
                      have q2 := (hD 2 (by decide)).2 _ 94 rfl rfl
                      obtain ⟨A3, c3, B3, e3r, hr3, hB3⟩ := (hD 3 (by decide)).2 _ 95 rfl rfl
                      have q3 : a.tmps.getD 95 undef = .slice A3 ln c3 := by assumption
                      obtain ⟨A4, c4, e4r, hr4, ha4⟩ := (hD 4 (by decide)).2 _ 96 rfl rfl
                      have q4 : a.tmps.getD 96 undef = .tuple #[.agg #[.int .i64 (N : Int), .slice A4 LL.length c4], .int .i64 cnt, .int .i64 code] := by assumption
                      obtain ⟨A5, c5, e5r, hr5, ha5⟩ := (hD 5 (by decide)).2 _ 91 rfl rfl
                      have q5 : a.tmps.getD 91 undef = .tuple #[.agg #[.int .i64 (N : Int), .slice A5 LL.length c5], .int .i64 cnt, .int .i64 code] := by assumption
                      obtain ⟨A6, c6, e6r, hr6, ha6⟩ := (hD 6 (by decide)).2 _ 97 rfl rfl
                      have q6 : a.tmps.getD 97 undef = .agg #[.int .i64 (N : Int), .slice A6 LL.length c6] := by assumption
                      have q7 := (hD 7 (by decide)).2 _ 98 rfl rfl
                      have q8 := (hD 8 (by decide)).2 _ 99 rfl rfl
                      have q11 := (hD 11 (by decide)).2 _ 20 rfl rfl
                      have q12 := (hD 12 (by decide)).2 _ 21 rfl rfl
                      obtain ⟨-, J2⟩ := hJ
                      obtain ⟨bs, v0, v1, q9, hbsN, hbs, hv⟩ := J2 (hD 9 (by decide)).1
                      have hv2 := hv (hD 10 (by decide)).1
                      rw [q6] at hv2
                      injection hv2 with hv2
                      injection hv2 with hv2
                      injection hv2 with hv3 hv2
                      injection hv2 with hv4 _
                      subst hv3
                      subst hv4
                      clear J2 hv
                      have hact := act_puts (a := a) [(92, .agg #[.int .i64 (N : Int), .slice A L.length c]), (93, .pointer (some ⟨ba, 1, none⟩)), (94, .slice lA ln lc), (95, .slice A3 ln c3), (96, .tuple #[.agg #[.int .i64 (N : Int), .slice A4 LL.length c4], .int .i64 cnt, .int .i64 code]), (91, .tuple #[.agg #[.int .i64 (N : Int), .slice A5 LL.length c5], .int .i64 cnt, .int .i64 code]), (97, .agg #[.int .i64 (N : Int), .slice A6 LL.length c6]), (98, .int .i64 cnt), (99, .int .i64 code), (20, .int .i64 cnt), (21, .int .i64 code), (19, .pointer (some ⟨bs, 0, none⟩))] _ hM.tmps hM.defers (by
                        intro s v hm
                        simp only [List.mem_cons, Prod.mk.injEq, List.not_mem_nil, or_false] at hm
                        rcases hm with ⟨rfl, rfl⟩ | ⟨rfl, rfl⟩ | ⟨rfl, rfl⟩ | ⟨rfl, rfl⟩ | ⟨rfl, rfl⟩ | ⟨rfl, rfl⟩ | ⟨rfl, rfl⟩ | ⟨rfl, rfl⟩ | ⟨rfl, rfl⟩ | ⟨rfl, rfl⟩ | ⟨rfl, rfl⟩ | ⟨rfl, rfl⟩
                        · exact ⟨(by show 92 < 175; decide), q0⟩
                        · exact ⟨(by show 93 < 175; decide), q1⟩
                        · exact ⟨(by show 94 < 175; decide), q2⟩
                        · exact ⟨(by show 95 < 175; decide), q3⟩
                        · exact ⟨(by show 96 < 175; decide), q4⟩
                        · exact ⟨(by show 91 < 175; decide), q5⟩
                        · exact ⟨(by show 97 < 175; decide), q6⟩
                        · exact ⟨(by show 98 < 175; decide), q7⟩
                        · exact ⟨(by show 99 < 175; decide), q8⟩
                        · exact ⟨(by show 20 < 175; decide), q11⟩
                        · exact ⟨(by show 21 < 175; decide), q12⟩
                        · exact ⟨(by show 19 < 175; decide), q9⟩) (fun s hs => hM.other s (fun hm => hs ((show ∀ t, t ∈ ([92, 93, 94, 95, 96, 91, 97, 98, 99, 19, 20, 21] : List Nat) → t ∈ ([92, 93, 94, 95, 96, 91, 97, 98, 99, 20, 21, 19] : List Nat) by decide) s hm)))
                      rw [hact]
                      have hBX := hM.below
                      clear hact hD hM q0 q1 q2 q3 q4 q5 q6 q7 q8 q11 q12 q9
                      simp only [List.foldl, Act.put, List.setIfInBounds_toArray, List.set_cons_succ, List.set_cons_zero]
                      have HU : Hid (Below w10.heap.size w10 wx ∧ wx.heap[bs]? = some (.cells #[.int .i64 (N : Int), .slice A6 LL.length c6] 31 (0, 0)) ∧ Rd wx wx.heap.size 3 A6 LL.length (ec LL)) := ⟨hBX, hbs, hr6⟩
                      have HA6 := Lib_hid ha6
                      clear hr6 ha6 hbs hBX
                      go_upto_region 21 with (fail)
                      generalize wx = U1 at *
                      have RU := HR10.out _ HU.out.1
                      have b0 := cell_of_row _ _ 0 _ _ _ HU.out.2.1
                      have b1 := cell_of_row _ _ 1 _ _ _ HU.out.2.1
                      have f0 := frozen_of_row _ _ 0 _ _ RU.P.x
                      have f1 := frozen_of_row _ _ 1 _ _ RU.P.x
                      have y0 := cell_of_row _ _ 0 _ _ _ RU.P.x
                      have y1 := cell_of_row _ _ 1 _ _ _ RU.P.x
                      go_upto_region 22 with (fail)
                      clear f0 f1 y0 y1 b0 b1
                      obtain ⟨U2, hU2⟩ : ∃ U2, U2 = (U1.setCell ⟨br, 0, none⟩ (.int .i64 (N : Int))).setCell ⟨br, 1, none⟩ (.slice A6 LL.length c6) := ⟨_, rfl⟩
                      rw [← hU2]
                      have ha : ∀ ad, A6 = some ad → ¬ S ad.block ∧ ad.block ≠ br ∧ ad.block < U1.heap.size := HAP.out U1 HU.out.1 HU.out.2.2 HA6.out
                      obtain ⟨t1, t2, t3, t4, t5, t6, t7⟩ := RU.P.write (L' := LL) (c' := c6) HU.out.2.2 ha U2 hU2
                      have HT := Lib_hid (And.intro t1 (And.intro t5 (And.intro t6 (t7 _ RU.b))))
                      have HRU := Lib_hid (And.intro RU ha)
                      have HUE := Lib_hid hU2
                      clear hU2 t1 t2 t3 t4 t5 t6 t7 RU ha
                      have HOU : Hid (U2.ownsRow V9.heap.size 39 3 (.slice Ao ln co) ln (ec aL)) := by
                        refine own_keep HOW.out fun k hk => (HT.out.2.2.1 k (fun e => ?_)).trans (HU.out.1.block k (own_lt HOW.out k hk))
                        have h1 := own_ge HOW.out k hk
                        have h2 := HR9.out.P.bl
                        omega
                      have hAoS : ∀ ad, Ao = some ad → ¬ S ad.block := fun ad hA hk => by
                        have h1 := own_ge HOW.out ad.block (by rw [hA]; rfl)
                        have h2 := HR9.out.P.g.lt _ hk
                        omega
                      have PAC := Lib_hid (HPA.out U2 p co S Ao HT.out.1 ((Rd.own HOU.out).more (Nat.le_refl _)) hAoS)
                      clear hAoS
                      go_wp2_with fail
                      refine PAC.out.mono ?_
                      rintro r w12 ⟨rfl, S2, hg2, t2, hs2⟩
                      have P12 : Hid (Pst w.heap.size w12 p br N S2 A6 c6 LL ∧ Was w12 pc bw bx N Sc A c L x1 x2 x3 ∧ Below w.heap.size w w12) := by
                        have hRU := HRU.out.1
                        have hsz : U2.heap.size = U1.heap.size := HT.out.2.1
                        have hlo : w.heap.size ≤ U1.heap.size := hRU.b.size
                        have hne : ∀ k, k < U1.heap.size → ¬ S k → k ≠ br → w12.heap[k]? = U1.heap[k]? := fun k h1 h2 h3 => (t2.block k (by omega) h2).trans (HT.out.2.2.1 k h3)
                        refine ⟨hRU.P.done HU.out.2.2 HRU.out.2 HUE.out hg2 t2 hs2 hlo, hRU.W.keep (by have := t2.size; omega) (fun k h1 h2 => hne k h1 (fun hk => ?_) (fun e => ?_)) (hne bw (Array.getElem?_eq_some_iff.1 hRU.W.w).1 (fun hk => ?_) (fun e => ?_)) (hne bx (Array.getElem?_eq_some_iff.1 hRU.W.x).1 (fun hk => ?_) (fun e => ?_)) (fun ad hA hlt => hne _ hlt (hRU.P.ap ad hA).1 (hRU.P.ap ad hA).2.1), HT.out.2.2.2.trans (t2.below (by omega) hRU.P.ge)⟩
                        · have := CK.out.1 k hk; have := CK.out.2.1 k h2; omega
                        · have := CK.out.2.1 k h2; have := CK.out.2.2.2.2; omega
                        · have := CK.out.1 _ hk; have := CK.out.2.2.1; omega
                        · have := CK.out.2.2.1; have := CK.out.2.2.2.2; omega
                        · have := CK.out.1 _ hk; have := CK.out.2.2.2.1; omega
                        · have := CK.out.2.2.2.1; have := CK.out.2.2.2.2; omega
                      have H12 : Hid (w12.ownsRow V9.heap.size 39 3 (.slice Ao ln co) ln (ec aL) ∧ (∀ k, S2 k → k < V9.heap.size ∨ w10.heap.size ≤ k) ∧ (∀ k, Ao.map (fun ad => ad.block) = some k → V9.heap.size ≤ k ∧ k < w10.heap.size) ∧ (∀ ad, A6 = some ad → ad.block < V9.heap.size ∨ w10.heap.size ≤ ad.block)) := by
                        refine ⟨own_keep HOU.out fun k hk => t2.block k (own_lt HOU.out k hk) (fun hS => ?_), fun k hk => ?_, fun k hk => ?_, fun ad hA => ?_⟩
                        · have h1 := own_ge HOU.out k hk
                          have h2 := HR9.out.P.g.lt _ hS
                          omega
                        · rcases hs2 k hk with h1 | h1
                          · exact .inl (HR9.out.P.g.lt _ h1)
                          · right; have := HT.out.2.1; have := HU.out.1.size; omega
                        · cases hA : Ao with
                          | none => rw [hA] at hk; cases hk
                          | some ad =>
                            rw [hA] at hk
                            have e : ad.block = k := by injection hk
                            exact ⟨own_ge HOW.out k (by rw [hA, ← e]; rfl), own_lt HOW.out k (by rw [hA, ← e]; rfl)⟩
                        · rcases HA6.out with ⟨h1, h2⟩ | ⟨h1, h2⟩
                          · exact .inl (HR9.out.P.ap ad (by rw [← h1]; exact hA)).2.2
                          · exact .inr (h2 ad hA)
                      clear hg2 t2 hs2 PAC HOU HT HRU HUE HU HOW HR10 HAP HRA HPA HA6
                      go_wp2_with fail
                      go_loopw [24] (fun z wr => ∃ q : Nat, z = .int .i64 q ∧ q ≤ ln ∧ Hid (Pst w.heap.size wr p br N S2 A6 c6 LL ∧ Was wr pc bw bx N Sc A c L x1 x2 x3 ∧ Below w.heap.size w wr) ∧ Hid (WRow V9.heap.size wr Ao (ln * 3) ∧ ∀ k, q ≤ k → k < ln → ∀ g, Ao = some ⟨g, 0, none⟩ → wr.cell? ⟨g, k * 3 + 2, none⟩ = some (.int .i64 (at3 aL k).2.2))) (fun z _ => ln - (intOf z).toNat)
                      case atStart => exact ⟨0, rfl, Nat.zero_le _, P12, WRow.of_own H12.out.1, fun k _ hk g hA => by
                        obtain ⟨b', o', e', _, _, _, c2'⟩ := e_at (Rd.own H12.out.1) hk
                        rw [hA] at e'
                        simp only [Option.some.injEq, Addr.mk.injEq, and_true] at e'
                        obtain ⟨rfl, rfl⟩ := e'
                        rw [Nat.zero_add] at c2'
                        exact c2'⟩
                      case round =>
                        obtain ⟨q, rfl, hq, hs1, hs2⟩ := hrel
                        obtain ⟨V0, rfl⟩ : ∃ V0, V0 = wr := ⟨wr, rfl⟩
                        by_cases hlt : q < ln
                        · obtain ⟨g, v, hA, hg, hc, hf⟩ := hs2.out.1.at_ (k := q * 3 + 2) (by omega)
                          have hcv := hs2.out.2 q (Nat.le_refl _) hlt g hA
                          have hgb := H12.out.2.2.1 g (by rw [hA]; rfl)
                          have hqi : (q : Int) < (ln : Int) := by omega
                          have hq0 : (0 : Int) ≤ (q : Int) := by omega
                          have HRD := Lib_hid hA
                          have HSTEP : Hid (∀ u : Value, (Pst w.heap.size (V0.setCell ⟨g, q * 3 + 2, none⟩ u) p br N S2 A6 c6 LL ∧ Was (V0.setCell ⟨g, q * 3 + 2, none⟩ u) pc bw bx N Sc A c L x1 x2 x3 ∧ Below w.heap.size w (V0.setCell ⟨g, q * 3 + 2, none⟩ u)) ∧ (WRow V9.heap.size (V0.setCell ⟨g, q * 3 + 2, none⟩ u) Ao (ln * 3) ∧ ∀ k, q + 1 ≤ k → k < ln → ∀ g', Ao = some ⟨g', 0, none⟩ → (V0.setCell ⟨g, q * 3 + 2, none⟩ u).cell? ⟨g', k * 3 + 2, none⟩ = some (.int .i64 (at3 aL k).2.2))) := fun u => by
                            have hV1s : (V0.setCell ⟨g, q * 3 + 2, none⟩ u).heap.size = V0.heap.size := by simp
                            have hV1o : ∀ k, k ≠ g → (V0.setCell ⟨g, q * 3 + 2, none⟩ u).heap[k]? = V0.heap[k]? := fun k hk => heap_setCell_other _ ⟨g, q * 3 + 2, none⟩ k _ hk
                            refine ⟨⟨hs1.out.1.keep (Nat.le_of_eq hV1s.symm) (fun k _ hS => hV1o k (fun e => ?_)) (hV1o _ (fun e => ?_)) (fun ad hA6 _ => hV1o _ (fun e => ?_)), hs1.out.2.1.keep (Nat.le_of_eq hV1s.symm) (fun k _ hS => hV1o k (fun e => ?_)) (hV1o _ (fun e => ?_)) (hV1o _ (fun e => ?_)) (fun ad hA6 _ => hV1o _ (fun e => ?_)), hs1.out.2.2.setCell (p := ⟨g, q * 3 + 2, none⟩) (Nat.le_trans HSZ.out.1 hg) _⟩, hs2.out.1.set _, fun k h1 h2 g' hA' => ?_⟩
                            · rcases H12.out.2.1 k hS with h1 | h1 <;> omega
                            · have := HR9.out.P.bl; omega
                            · rcases H12.out.2.2.2 ad hA6 with h1 | h1 <;> omega
                            · have := HR9.out.W.g.lt k hS; omega
                            · have := (Array.getElem?_eq_some_iff.1 HR9.out.W.w).1; omega
                            · have := (Array.getElem?_eq_some_iff.1 HR9.out.W.x).1; omega
                            · have := (HR9.out.P.ap ad hA6).2.2; omega
                            · have e1 : g' = g := by
                                rw [hA] at hA'
                                injection hA' with hA'
                                injection hA' with hA' _ _
                                exact hA'.symm
                              subst e1
                              refine Eq.trans ?_ (hs2.out.2 k (by omega) h2 g' hA)
                              obtain ⟨g9, cur, T, i1, i2, i3, i4⟩ := hs2.out.1.resolve_left (by omega)
                              rw [hA] at i1
                              injection i1 with i1
                              injection i1 with i1 _ _
                              subst i1
                              have j1 : (V0.setCell ⟨g', q * 3 + 2, none⟩ u).heap[g']? = _ := heap_setCell_same V0 g' (q * 3 + 2) _ _ _ i3
                              rw [cell_of_row _ _ (k * 3 + 2) _ _ _ j1, cell_of_row _ _ (k * 3 + 2) _ _ _ i3]
                              rw [Array.getElem?_setIfInBounds, if_neg (by omega)]
                          subst hA
                          clear hc hs1 hs2 hgb hg
                          generalize (at3 aL q).2.2 = z9 at *
                          go_wp2
                          clear hf hcv
                          go_roundw
                          case rel => exact ⟨q + 1, by go_num, by omega, (HSTEP.out _).1, (HSTEP.out _).2⟩
                          case measure => simp [intOf]; omega
                        · obtain rfl : q = ln := by omega
                          have dc : (cnt != cnt) = false := by simp
                          have de : (code != code) = false := by simp
                          have hs9 := Lib_hid hs1.out
                          have hl9 := Lib_hid HLLL.out
                          clear hs1 hs2
                          go_wp2_with fail
                          go_meet
                          first
                          | exact ⟨S2, A6, c6, LL, hl9, hs9⟩
                          | exact ⟨⟨S2, A6, c6, LL, hl9, hs9⟩, rfl⟩
                          | ((repeat apply Exists.intro); exact ⟨⟨S2, A6, c6, LL, hl9, hs9⟩, rfl⟩)
                  · have d3 : decide ((kk : Int) < 3) = false := decide_eq_false (by omega)
                    have d3' : decide (kk < 3) = false := decide_eq_false h3
                    have h3i : (3 : Int) ≤ (kk : Int) := by omega
                    clear h3 hkk
                    have hsz9 : w.heap.size ≤ V9.heap.size := HR9.out.b.size
                    have HR10 : Hid (∀ V : World, Below V9.heap.size V9 V → Rnd w.heap.size ba w V p br N S A c L pc bw bx Sc x1 x2 x3 d lA ln lc) := fun V hV => HR9.out.later hsz9 hV
                    clear hsz9
                    go_upto_region 29 with (fail)
                    refine wp_region_midJ (N := 175) 8 (fun i v ww => ([fun v ww => v = .agg #[.int .i64 (N : Int), .slice A L.length c], fun v ww => v = .agg #[.int .i64 x1, .int .i64 x2, .int .i64 x3], fun v ww => ∃ h, v = .slice (some ⟨h, 0, none⟩) 1 1 ∧ ww.heap[h]? = some (.cells #[.int .i64 x1, .int .i64 x2, .int .i64 x3] 39 (0, 0)), fun v ww => ∃ g c5, v = .slice (some ⟨g, 0, none⟩) 1 c5 ∧ OneE ww 0 g c5 (x1, x2, x3), fun v ww => ∃ g c5, v = .pointer (some ⟨g, 0, none⟩) ∧ OneE ww 0 g c5 (x1, x2, x3), fun v ww => v = .agg #[.int .i64 x1, .int .i64 x2, .int .i64 x3], fun v ww => ∃ A' c', v = .tuple #[.agg #[.int .i64 (N : Int), .slice A' (remE L (x1, x2, x3)).length c'], .bool (decide ((x1, x2, x3) ∈ L))] ∧ Rd ww ww.heap.size 3 A' (remE L (x1, x2, x3)).length (ec (remE L (x1, x2, x3))) ∧ ∀ ad, A' = some ad → V9.heap.size ≤ ad.block ∧ ad.block < ww.heap.size, fun v ww => ∃ A' c', v = .tuple #[.agg #[.int .i64 (N : Int), .slice A' (remE L (x1, x2, x3)).length c'], .bool (decide ((x1, x2, x3) ∈ L))] ∧ Rd ww ww.heap.size 3 A' (remE L (x1, x2, x3)).length (ec (remE L (x1, x2, x3))) ∧ ∀ ad, A' = some ad → V9.heap.size ≤ ad.block ∧ ad.block < ww.heap.size, fun v ww => ∃ A' c', v = .agg #[.int .i64 (N : Int), .slice A' (remE L (x1, x2, x3)).length c'] ∧ Rd ww ww.heap.size 3 A' (remE L (x1, x2, x3)).length (ec (remE L (x1, x2, x3))) ∧ ∀ ad, A' = some ad → V9.heap.size ≤ ad.block ∧ ad.block < ww.heap.size, fun v ww => v = .bool (decide ((x1, x2, x3) ∈ L)), fun v ww => True, fun v ww => True, fun v ww => v = .bool (decide ((x1, x2, x3) ∈ L))] : List (Value → World → Prop)).getD i (fun _ _ => True) v ww) (BoxK 31 2 V9.heap.size) (Box1J 31 V9.heap.size 25 137 10 8 11) (by kernel_rfl) (by kernel_rfl) rfl ?_ ?_ ?_ ?_ ?_ ?_ ?_
                    · exact fun _ _ hb => BoxK.of hb
                    · intro i v wa wb h0 hb hp
                      by_cases hi : i < 13
                      · have hcase : i = 0 ∨ i = 1 ∨ i = 2 ∨ i = 3 ∨ i = 4 ∨ i = 5 ∨ i = 6 ∨ i = 7 ∨ i = 8 ∨ i = 9 ∨ i = 10 ∨ i = 11 ∨ i = 12 := by omega
                        rcases hcase with rfl | rfl | rfl | rfl | rfl | rfl | rfl | rfl | rfl | rfl | rfl | rfl | rfl
                        · exact hp
                        · exact hp
                        · obtain ⟨h, e, hh⟩ := hp
                          exact ⟨h, e, hb.keep hh fun cs e1 _ => by injection e1 with _ e1 _; exact absurd e1 (by decide)⟩
                        · obtain ⟨g, c5, e, ho⟩ := hp
                          exact ⟨g, c5, e, ho.boxk hb⟩
                        · obtain ⟨g, c5, e, ho⟩ := hp
                          exact ⟨g, c5, e, ho.boxk hb⟩
                        · exact hp
                        · obtain ⟨A', c', e, hr, ha⟩ := hp
                          exact ⟨A', c', e, (hr.boxk (Nat.le_refl _) hb).more hb.1, fun ad hA => ⟨(ha ad hA).1, Nat.lt_of_lt_of_le (ha ad hA).2 hb.1⟩⟩
                        · obtain ⟨A', c', e, hr, ha⟩ := hp
                          exact ⟨A', c', e, (hr.boxk (Nat.le_refl _) hb).more hb.1, fun ad hA => ⟨(ha ad hA).1, Nat.lt_of_lt_of_le (ha ad hA).2 hb.1⟩⟩
                        · obtain ⟨A', c', e, hr, ha⟩ := hp
                          exact ⟨A', c', e, (hr.boxk (Nat.le_refl _) hb).more hb.1, fun ad hA => ⟨(ha ad hA).1, Nat.lt_of_lt_of_le (ha ad hA).2 hb.1⟩⟩
                        · exact hp
                        · exact hp
                        · exact hp
                        · exact hp
                      · have hnn : ([fun v ww => v = .agg #[.int .i64 (N : Int), .slice A L.length c], fun v ww => v = .agg #[.int .i64 x1, .int .i64 x2, .int .i64 x3], fun v ww => ∃ h, v = .slice (some ⟨h, 0, none⟩) 1 1 ∧ ww.heap[h]? = some (.cells #[.int .i64 x1, .int .i64 x2, .int .i64 x3] 39 (0, 0)), fun v ww => ∃ g c5, v = .slice (some ⟨g, 0, none⟩) 1 c5 ∧ OneE ww 0 g c5 (x1, x2, x3), fun v ww => ∃ g c5, v = .pointer (some ⟨g, 0, none⟩) ∧ OneE ww 0 g c5 (x1, x2, x3), fun v ww => v = .agg #[.int .i64 x1, .int .i64 x2, .int .i64 x3], fun v ww => ∃ A' c', v = .tuple #[.agg #[.int .i64 (N : Int), .slice A' (remE L (x1, x2, x3)).length c'], .bool (decide ((x1, x2, x3) ∈ L))] ∧ Rd ww ww.heap.size 3 A' (remE L (x1, x2, x3)).length (ec (remE L (x1, x2, x3))) ∧ ∀ ad, A' = some ad → V9.heap.size ≤ ad.block ∧ ad.block < ww.heap.size, fun v ww => ∃ A' c', v = .tuple #[.agg #[.int .i64 (N : Int), .slice A' (remE L (x1, x2, x3)).length c'], .bool (decide ((x1, x2, x3) ∈ L))] ∧ Rd ww ww.heap.size 3 A' (remE L (x1, x2, x3)).length (ec (remE L (x1, x2, x3))) ∧ ∀ ad, A' = some ad → V9.heap.size ≤ ad.block ∧ ad.block < ww.heap.size, fun v ww => ∃ A' c', v = .agg #[.int .i64 (N : Int), .slice A' (remE L (x1, x2, x3)).length c'] ∧ Rd ww ww.heap.size 3 A' (remE L (x1, x2, x3)).length (ec (remE L (x1, x2, x3))) ∧ ∀ ad, A' = some ad → V9.heap.size ≤ ad.block ∧ ad.block < ww.heap.size, fun v ww => v = .bool (decide ((x1, x2, x3) ∈ L)), fun v ww => True, fun v ww => True, fun v ww => v = .bool (decide ((x1, x2, x3) ∈ L))] : List (Value → World → Prop))[i]? = none := List.getElem?_eq_none (by simpa using hi)
                        rw [List.getD_eq_getElem?_getD, hnn]
                        trivial
                    · exact Box1J.start _ _
                    · intro i o Ls a v wx w' hi8 hi hM hJ hb
                      have hcase : i = 0 ∨ i = 1 ∨ i = 2 ∨ i = 3 ∨ i = 4 ∨ i = 5 ∨ i = 6 ∨ i = 7 := by omega
                      clear hi8
                      rcases hcase with rfl | rfl | rfl | rfl | rfl | rfl | rfl | rfl
                      · obtain rfl := Option.some.inj hi
                        exact hJ.step hb (by decide) (by decide) (by decide) (by decide) (by decide)
                      · obtain rfl := Option.some.inj hi
                        exact hJ.step hb (by decide) (by decide) (by decide) (by decide) (by decide)
                      · obtain rfl := Option.some.inj hi
                        exact hJ.step hb (by decide) (by decide) (by decide) (by decide) (by decide)
                      · obtain rfl := Option.some.inj hi
                        exact hJ.step hb (by decide) (by decide) (by decide) (by decide) (by decide)
                      · obtain rfl := Option.some.inj hi
                        exact hJ.step hb (by decide) (by decide) (by decide) (by decide) (by decide)
                      · obtain rfl := Option.some.inj hi
                        exact hJ.step hb (by decide) (by decide) (by decide) (by decide) (by decide)
                      · obtain rfl := Option.some.inj hi
                        exact hJ.step hb (by decide) (by decide) (by decide) (by decide) (by decide)
                      · obtain rfl := Option.some.inj hi
                        exact hJ.step hb (by decide) (by decide) (by decide) (by decide) (by decide)
                    · intro i o a wx hi8 hi hM hD
                      have hcase : i = 0 ∨ i = 1 ∨ i = 2 ∨ i = 3 ∨ i = 4 ∨ i = 5 ∨ i = 6 ∨ i = 7 := by omega
                      clear hi8
                      rcases hcase with rfl | rfl | rfl | rfl | rfl | rfl | rfl | rfl
                      · obtain rfl := Option.some.inj hi
                        have e11 : a.tmps.getD 11 undef = .pointer (some ⟨br, 0, none⟩) := (hM.other 11 (by decide +kernel)).trans rfl
                        have hRX := HR10.out _ hM.below
                        obtain ⟨q0, q1⟩ := hRX.P.cells
                        obtain ⟨⟨m0, m1, m2⟩, -⟩ := hRX.W.xc
                        refine ⟨rfl, mid_step (.agg #[.int .i64 (N : Int), .slice A L.length c]) wx (fun K hK => ?_) ⟨_, rfl, rfl, Below.refl _ _⟩⟩
                        go_simp
                        exact hK
                      · obtain rfl := Option.some.inj hi
                        have e17 : a.tmps.getD 17 undef = .pointer (some ⟨bx, 0, none⟩) := (hM.other 17 (by decide +kernel)).trans rfl
                        have hRX := HR10.out _ hM.below
                        obtain ⟨q0, q1⟩ := hRX.P.cells
                        obtain ⟨⟨m0, m1, m2⟩, -⟩ := hRX.W.xc
                        refine ⟨rfl, mid_step (.agg #[.int .i64 x1, .int .i64 x2, .int .i64 x3]) wx (fun K hK => ?_) ⟨_, rfl, rfl, Below.refl _ _⟩⟩
                        go_simp
                        exact hK
                      · obtain rfl := Option.some.inj hi
                        have e131 : a.tmps.getD 131 undef = .agg #[.int .i64 x1, .int .i64 x2, .int .i64 x3] := hD 1 (by kernel_rfl) _ 131 rfl rfl
                        have f131 := e131
                        rw [Array.getD_eq_getD_getElem?] at f131
                        refine ⟨rfl, mid_step (.slice (some ⟨wx.heap.size, 0, none⟩) 1 1) (wx.alloc (.cells #[.int .i64 x1, .int .i64 x2, .int .i64 x3] 39)) (fun K hK => ?_) ⟨_, rfl, ⟨_, rfl, heap_alloc_new _ _⟩, below_new _ _⟩⟩
                        go_simp
                        exact hK
                      · obtain rfl := Option.some.inj hi
                        obtain ⟨h, e132, hh⟩ := hD 2 (by kernel_rfl) _ 132 rfl rfl
                        refine ⟨rfl, mid_call (fun v w' => (∃ g c5, v = .slice (some ⟨g, 0, none⟩) 1 c5 ∧ OneE w' 0 g c5 (x1, x2, x3)) ∧ Below wx.heap.size wx w') (fun K hK => ?_) (fun v w' h => ⟨v, rfl, h.1, h.2⟩)⟩
                        go_simp
                        refine (one_edge (a := (x1, x2, x3)) hh (Nat.zero_le _)).mono ?_
                        rintro e w' ⟨⟨g, c5, rfl, ho'⟩, hb'⟩
                        exact hK _ _ ⟨⟨g, c5, rfl, ho'⟩, hb'⟩
                      · obtain rfl := Option.some.inj hi
                        obtain ⟨g, c5, e133, ho⟩ := hD 3 (by kernel_rfl) _ 133 rfl rfl
                        refine ⟨rfl, mid_step (.pointer (some ⟨g, 0, none⟩)) wx (fun K hK => ?_) ⟨_, rfl, ⟨g, c5, rfl, ho⟩, Below.refl _ _⟩⟩
                        go_simp
                        exact hK
                      · obtain rfl := Option.some.inj hi
                        obtain ⟨g, c5, e134, ho⟩ := hD 4 (by kernel_rfl) _ 134 rfl rfl
                        obtain ⟨r0, r1, r2⟩ := ho.at0
                        refine ⟨rfl, mid_step (.agg #[.int .i64 x1, .int .i64 x2, .int .i64 x3]) wx (fun K hK => ?_) ⟨_, rfl, rfl, Below.refl _ _⟩⟩
                        go_simp
                        exact hK
                      · obtain rfl := Option.some.inj hi
                        have e130 : a.tmps.getD 130 undef = .agg #[.int .i64 (N : Int), .slice A L.length c] := hD 0 (by kernel_rfl) _ 130 rfl rfl
                        have e135 : a.tmps.getD 135 undef = .agg #[.int .i64 x1, .int .i64 x2, .int .i64 x3] := hD 5 (by kernel_rfl) _ 135 rfl rfl
                        refine ⟨rfl, mid_call (fun v w' => (∃ A' c', v = .tuple #[.agg #[.int .i64 (N : Int), .slice A' (remE L (x1, x2, x3)).length c'], .bool (decide ((x1, x2, x3) ∈ L))] ∧ Rd w' w'.heap.size 3 A' (remE L (x1, x2, x3)).length (ec (remE L (x1, x2, x3))) ∧ ∀ ad, A' = some ad → V9.heap.size ≤ ad.block ∧ ad.block < w'.heap.size) ∧ Below wx.heap.size wx w') (fun K hK => ?_) (fun v w' h => ⟨v, rfl, h.1, h.2⟩)⟩
                        go_simp
                        refine (rremove_any (c := c) (N := N) (x1, x2, x3) (HR10.out _ hM.below).P.rd (Nat.le_refl _) (Nat.le_trans HLL.out (by decide)) (HR10.out _ hM.below).P.g.srt.nodup).mono ?_
                        rintro e w' ⟨A', c', rfl, hr', hb', ha'⟩
                        exact hK _ _ ⟨⟨A', c', rfl, hr', fun ad hA => ⟨Nat.le_trans hM.below.size (ha' ad hA).1, (ha' ad hA).2⟩⟩, hb'⟩
                      · obtain rfl := Option.some.inj hi
                        obtain ⟨A', c', e136, hr, ha⟩ := hD 6 (by kernel_rfl) _ 136 rfl rfl
                        refine ⟨rfl, mid_step (.tuple #[.agg #[.int .i64 (N : Int), .slice A' (remE L (x1, x2, x3)).length c'], .bool (decide ((x1, x2, x3) ∈ L))]) wx (fun K hK => ?_) ⟨_, rfl, ⟨A', c', rfl, hr, ha⟩, Below.refl _ _⟩⟩
                        go_simp
                        exact hK
                    · intro i o Ls a wx hi8 hi hL hM hJ hD
                      have hi9 : i < 13 := (Array.getElem?_eq_some_iff.1 hi).1
                      have hcase : i = 8 ∨ i = 9 ∨ i = 10 ∨ i = 11 ∨ i = 12 := by omega
                      clear hi8 hi9
                      rcases hcase with rfl | rfl | rfl | rfl | rfl
                      · obtain rfl := Option.some.inj hi
                        obtain ⟨A', c', e129, hr, ha⟩ := (hD 7 (by kernel_rfl)).2 _ 129 rfl rfl
                        refine ⟨rfl, mid_step (.agg #[.int .i64 (N : Int), .slice A' (remE L (x1, x2, x3)).length c']) wx (fun K hK => ?_) ⟨_, rfl, ⟨A', c', rfl, hr, ha⟩, BoxK.of (Below.refl _ _), hM.below, hJ.val (Below.refl _ _) hL (by decide) (by decide) (by decide)⟩⟩
                        go_simp
                        exact hK
                      · obtain rfl := Option.some.inj hi
                        obtain ⟨A', c', e129, hr, ha⟩ := (hD 7 (by kernel_rfl)).2 _ 129 rfl rfl
                        refine ⟨rfl, mid_step (.bool (decide ((x1, x2, x3) ∈ L))) wx (fun K hK => ?_) ⟨_, rfl, rfl, BoxK.of (Below.refl _ _), hM.below, hJ.step (Below.refl _ _) (by decide) (by decide) (by decide) (by decide) (by decide)⟩⟩
                        go_simp
                        exact hK
                      · obtain rfl := Option.some.inj hi
                        refine ⟨rfl, mid_step (.pointer (some ⟨wx.heap.size, 0, none⟩)) (wx.alloc (.cells #[.int .i64 0, .slice none 0 0] 31)) (fun K hK => ?_) ⟨_, rfl, trivial, BoxK.of (below_new _ _), hM.below.trans ((below_new _ _).mono hM.below.size), hJ.make (Nat.lt_of_lt_of_eq (show 25 < 175 by decide) (hM.tmps.trans rfl).symm) hL (by decide) (by decide) hM.below.size⟩⟩
                        go_simp
                        exact hK
                      · obtain rfl := Option.some.inj hi
                        obtain ⟨A', c', e137, hr, ha⟩ := (hD 8 (by kernel_rfl)).2 _ 137 rfl rfl
                        have l9 := (hD 10 (by kernel_rfl)).1
                        have l6 := (hD 8 (by kernel_rfl)).1
                        have hJ2 := hJ
                        obtain ⟨-, J2⟩ := hJ2
                        obtain ⟨g, z0, z1, e25, hgW, hg, -⟩ := J2 l9
                        clear J2
                        have f0 := frozen_of_row _ _ 0 _ _ hg
                        have f1 := frozen_of_row _ _ 1 _ _ hg
                        have c0 := cell_of_row _ _ 0 _ _ _ hg
                        have c1 := cell_of_row _ _ 1 _ _ _ hg
                        obtain ⟨u1, u2, u3, u4⟩ := box2_write (.int .i64 (N : Int)) (.slice A' (remE L (x1, x2, x3)).length c') hg
                        refine ⟨rfl, mid_step undef ((wx.setCell ⟨g, 0, none⟩ (.int .i64 (N : Int))).setCell ⟨g, 1, none⟩ (.slice A' (remE L (x1, x2, x3)).length c')) (fun K hK => ?_) ⟨_, rfl, trivial, ⟨Nat.le_of_eq u3.symm, fun k _ => ?_⟩, u4 _ _ hM.below hgW, hJ.write l9 l6 e137 (by decide) (by decide) (fun g' y0 y1 e' hg' => ?_) undef⟩⟩
                        · have hK2 : K a _ := hK
                          go_simp
                          exact hK2
                        · by_cases hk : k = g
                          · subst hk; exact .inr ⟨hgW, _, rfl, hg⟩
                          · exact .inl (u2 k hk)
                        · obtain rfl : g' = g := by rw [e25] at e'; injection e' with e'; injection e' with e'; injection e' with e' _ _; exact e'.symm
                          exact u1
                      · obtain rfl := Option.some.inj hi
                        have e138 : a.tmps.getD 138 undef = .bool (decide ((x1, x2, x3) ∈ L)) := (hD 9 (by kernel_rfl)).2 _ 138 rfl rfl
                        refine ⟨rfl, mid_step (.bool (decide ((x1, x2, x3) ∈ L))) wx (fun K hK => ?_) ⟨_, rfl, rfl, BoxK.of (Below.refl _ _), hM.below, hJ.step (Below.refl _ _) (by decide) (by decide) (by decide) (by decide) (by decide)⟩⟩
                        go_simp
                        exact hK
                    · intro Ls a wx hM hJ hD
                      have q0 := (hD 0 (by decide)).2 _ 130 rfl rfl
                      have q1 := (hD 1 (by decide)).2 _ 131 rfl rfl
                      obtain ⟨h2, e2r, hh2⟩ := (hD 2 (by decide)).2 _ 132 rfl rfl
                      have q2 : a.tmps.getD 132 undef = .slice (some ⟨h2, 0, none⟩) 1 1 := by assumption
                      obtain ⟨g3, c3, e3r, ho3⟩ := (hD 3 (by decide)).2 _ 133 rfl rfl
                      have q3 : a.tmps.getD 133 undef = .slice (some ⟨g3, 0, none⟩) 1 c3 := by assumption
                      obtain ⟨g4, c4, e4r, ho4⟩ := (hD 4 (by decide)).2 _ 134 rfl rfl
                      have q4 : a.tmps.getD 134 undef = .pointer (some ⟨g4, 0, none⟩) := by assumption
                      have q5 := (hD 5 (by decide)).2 _ 135 rfl rfl
                      obtain ⟨A60, c60, e60r, hr60, ha60⟩ := (hD 6 (by decide)).2 _ 136 rfl rfl
                      have q6 : a.tmps.getD 136 undef = .tuple #[.agg #[.int .i64 (N : Int), .slice A60 (remE L (x1, x2, x3)).length c60], .bool (decide ((x1, x2, x3) ∈ L))] := by assumption
                      obtain ⟨A61, c61, e61r, hr61, ha61⟩ := (hD 7 (by decide)).2 _ 129 rfl rfl
                      have q7 : a.tmps.getD 129 undef = .tuple #[.agg #[.int .i64 (N : Int), .slice A61 (remE L (x1, x2, x3)).length c61], .bool (decide ((x1, x2, x3) ∈ L))] := by assumption
                      obtain ⟨A6, c6, e6r, hr6, ha6⟩ := (hD 8 (by decide)).2 _ 137 rfl rfl
                      have q8 : a.tmps.getD 137 undef = .agg #[.int .i64 (N : Int), .slice A6 (remE L (x1, x2, x3)).length c6] := by assumption
                      have q9 := (hD 9 (by decide)).2 _ 138 rfl rfl
                      have q12 := (hD 12 (by decide)).2 _ 26 rfl rfl
                      obtain ⟨-, J2⟩ := hJ
                      obtain ⟨bs, v0, v1, q10, hbsN, hbs, hv⟩ := J2 (hD 10 (by decide)).1
                      have hv2 := hv (hD 11 (by decide)).1
                      rw [q8] at hv2
                      injection hv2 with hv2
                      injection hv2 with hv2
                      injection hv2 with hv3 hv2
                      injection hv2 with hv4 _
                      subst hv3
                      subst hv4
                      clear J2 hv
                      have hact := act_puts (a := a) [(130, .agg #[.int .i64 (N : Int), .slice A L.length c]), (131, .agg #[.int .i64 x1, .int .i64 x2, .int .i64 x3]), (132, .slice (some ⟨h2, 0, none⟩) 1 1), (133, .slice (some ⟨g3, 0, none⟩) 1 c3), (134, .pointer (some ⟨g4, 0, none⟩)), (135, .agg #[.int .i64 x1, .int .i64 x2, .int .i64 x3]), (136, .tuple #[.agg #[.int .i64 (N : Int), .slice A60 (remE L (x1, x2, x3)).length c60], .bool (decide ((x1, x2, x3) ∈ L))]), (129, .tuple #[.agg #[.int .i64 (N : Int), .slice A61 (remE L (x1, x2, x3)).length c61], .bool (decide ((x1, x2, x3) ∈ L))]), (137, .agg #[.int .i64 (N : Int), .slice A6 (remE L (x1, x2, x3)).length c6]), (138, .bool (decide ((x1, x2, x3) ∈ L))), (26, .bool (decide ((x1, x2, x3) ∈ L))), (25, .pointer (some ⟨bs, 0, none⟩))] _ hM.tmps hM.defers (by
                        intro s v hm
                        simp only [List.mem_cons, Prod.mk.injEq, List.not_mem_nil, or_false] at hm
                        rcases hm with ⟨rfl, rfl⟩ | ⟨rfl, rfl⟩ | ⟨rfl, rfl⟩ | ⟨rfl, rfl⟩ | ⟨rfl, rfl⟩ | ⟨rfl, rfl⟩ | ⟨rfl, rfl⟩ | ⟨rfl, rfl⟩ | ⟨rfl, rfl⟩ | ⟨rfl, rfl⟩ | ⟨rfl, rfl⟩ | ⟨rfl, rfl⟩
                        · exact ⟨(by show 130 < 175; decide), q0⟩
                        · exact ⟨(by show 131 < 175; decide), q1⟩
                        · exact ⟨(by show 132 < 175; decide), q2⟩
                        · exact ⟨(by show 133 < 175; decide), q3⟩
                        · exact ⟨(by show 134 < 175; decide), q4⟩
                        · exact ⟨(by show 135 < 175; decide), q5⟩
                        · exact ⟨(by show 136 < 175; decide), q6⟩
                        · exact ⟨(by show 129 < 175; decide), q7⟩
                        · exact ⟨(by show 137 < 175; decide), q8⟩
                        · exact ⟨(by show 138 < 175; decide), q9⟩
                        · exact ⟨(by show 26 < 175; decide), q12⟩
                        · exact ⟨(by show 25 < 175; decide), q10⟩) (fun s hs => hM.other s (fun hm => hs ((show ∀ t, t ∈ ([130, 131, 132, 133, 134, 135, 136, 129, 137, 138, 25, 26] : List Nat) → t ∈ ([130, 131, 132, 133, 134, 135, 136, 129, 137, 138, 26, 25] : List Nat) by decide) s hm)))
                      rw [hact]
                      have hBX := hM.below
                      clear hact hD hM q0 q1 q2 q3 q4 q5 q6 q7 q8 q9 q12 q10
                      simp only [List.foldl, Act.put, List.setIfInBounds_toArray, List.set_cons_succ, List.set_cons_zero]
                      generalize hLX : remE L (x1, x2, x3) = LL at *
                      have HLX := Lib_hid hLX
                      clear hLX hr60 hr61 ha60 ha61
                      have HAP : Hid (∀ (V : World), Below V9.heap.size V9 V → ∀ {A6 : Option Addr}, Rd V V.heap.size 3 A6 LL.length (ec LL) → (∀ ad, A6 = some ad → V9.heap.size ≤ ad.block ∧ ad.block < V.heap.size) → ∀ ad, A6 = some ad → ¬ S ad.block ∧ ad.block ≠ br ∧ ad.block < V.heap.size) := fun V hV A6 hr hh ad hA => by
                        have h3 := hh ad hA
                        refine ⟨fun hk => ?_, fun e => ?_, h3.2⟩
                        · have := (HR10.out _ (Below.refl _ _)).P.g.lt _ hk; omega
                        · have := (HR10.out _ (Below.refl _ _)).P.bl; omega
                      have HU : Hid (Below V9.heap.size V9 wx ∧ wx.heap[bs]? = some (.cells #[.int .i64 (N : Int), .slice A6 LL.length c6] 31 (0, 0)) ∧ Rd wx wx.heap.size 3 A6 LL.length (ec LL)) := ⟨hBX, hbs, hr6⟩
                      have HA6 := Lib_hid ha6
                      clear hr6 ha6 hbs hBX
                      go_upto_region 30 with (fail)
                      generalize wx = U1 at *
                      have RU := HR10.out _ HU.out.1
                      have b0 := cell_of_row _ _ 0 _ _ _ HU.out.2.1
                      have b1 := cell_of_row _ _ 1 _ _ _ HU.out.2.1
                      have f0 := frozen_of_row _ _ 0 _ _ RU.P.x
                      have f1 := frozen_of_row _ _ 1 _ _ RU.P.x
                      have y0 := cell_of_row _ _ 0 _ _ _ RU.P.x
                      have y1 := cell_of_row _ _ 1 _ _ _ RU.P.x
                      go_upto_region 31 with (fail)
                      clear f0 f1 y0 y1 b0 b1
                      obtain ⟨U2, hU2⟩ : ∃ U2, U2 = (U1.setCell ⟨br, 0, none⟩ (.int .i64 (N : Int))).setCell ⟨br, 1, none⟩ (.slice A6 LL.length c6) := ⟨_, rfl⟩
                      rw [← hU2]
                      have ha : ∀ ad, A6 = some ad → ¬ S ad.block ∧ ad.block ≠ br ∧ ad.block < U1.heap.size := HAP.out U1 HU.out.1 HU.out.2.2 HA6.out
                      obtain ⟨t1, t2, t3, t4, t5, t6, t7⟩ := RU.P.write (L' := LL) (c' := c6) HU.out.2.2 ha U2 hU2
                      have HT := Lib_hid (And.intro t1 (And.intro t5 (And.intro t6 (t7 _ RU.b))))
                      have HRU := Lib_hid (And.intro RU ha)
                      have HUE := Lib_hid hU2
                      clear hU2 t1 t2 t3 t4 t5 t6 t7 RU ha
                      have hxe : (U2.cell? ⟨bx, 0, none⟩ = some (.int .i64 x1) ∧ U2.cell? ⟨bx, 1, none⟩ = some (.int .i64 x2) ∧ U2.cell? ⟨bx, 2, none⟩ = some (.int .i64 x3)) := by
                        have h1 := (HT.out.2.2.1 bx (fun e => by have := CK.out.2.2.2.1; have := CK.out.2.2.2.2; omega)).trans HRU.out.1.W.x
                        exact ⟨cell_of_row _ _ 0 _ _ _ h1, cell_of_row _ _ 1 _ _ _ h1, cell_of_row _ _ 2 _ _ _ h1⟩
                      obtain ⟨m0, m1, m2⟩ := hxe
                      have PAC := Lib_hid (gremove_any HT.out.1 (e := (x1, x2, x3)) HXO.out (Nat.le_trans HN.out (by decide)) (Nat.le_trans HLL.out (by decide)))
                      have hbb : ((decide ((x1, x2, x3) ∈ L)) != (decide ((x1, x2, x3) ∈ L))) = false := by simp
                      unfold eV at PAC
                      go_wp2_with fail
                      refine PAC.out.mono ?_
                      rintro r w12 ⟨rfl, S2, hg2, t2, hs2⟩
                      rw [HLX.out] at hg2
                      have P12 : Hid (Pst w.heap.size w12 p br N S2 A6 c6 LL ∧ Was w12 pc bw bx N Sc A c L x1 x2 x3 ∧ Below w.heap.size w w12) := by
                        have hRU := HRU.out.1
                        have hsz : U2.heap.size = U1.heap.size := HT.out.2.1
                        have hlo : w.heap.size ≤ U1.heap.size := hRU.b.size
                        have hne : ∀ k, k < U1.heap.size → ¬ S k → k ≠ br → w12.heap[k]? = U1.heap[k]? := fun k h1 h2 h3 => (t2.block k (by omega) h2).trans (HT.out.2.2.1 k h3)
                        refine ⟨hRU.P.done HU.out.2.2 HRU.out.2 HUE.out hg2 t2 hs2 hlo, hRU.W.keep (by have := t2.size; omega) (fun k h1 h2 => hne k h1 (fun hk => ?_) (fun e => ?_)) (hne bw (Array.getElem?_eq_some_iff.1 hRU.W.w).1 (fun hk => ?_) (fun e => ?_)) (hne bx (Array.getElem?_eq_some_iff.1 hRU.W.x).1 (fun hk => ?_) (fun e => ?_)) (fun ad hA hlt => hne _ hlt (hRU.P.ap ad hA).1 (hRU.P.ap ad hA).2.1), HT.out.2.2.2.trans (t2.below (by omega) hRU.P.ge)⟩
                        · have := CK.out.1 k hk; have := CK.out.2.1 k h2; omega
                        · have := CK.out.2.1 k h2; have := CK.out.2.2.2.2; omega
                        · have := CK.out.1 _ hk; have := CK.out.2.2.1; omega
                        · have := CK.out.2.2.1; have := CK.out.2.2.2.2; omega
                        · have := CK.out.1 _ hk; have := CK.out.2.2.2.1; omega
                        · have := CK.out.2.2.2.1; have := CK.out.2.2.2.2; omega
                      have hs9 := Lib_hid P12.out
                      have hl9 : Hid (LL.length ≤ L.length + 12) := by rw [← HLX.out]; exact Nat.le_trans (remE_le _ _) (by omega)
                      clear hg2 t2 hs2 PAC HT HRU HUE HU HR10 HAP HA6 m0 m1 m2
                      go_wp2_with fail
                      go_meet
                      first
                      | exact ⟨S2, A6, c6, LL, hl9, hs9⟩
                      | exact ⟨⟨S2, A6, c6, LL, hl9, hs9⟩, rfl⟩
                      | ((repeat apply Exists.intro); exact ⟨⟨S2, A6, c6, LL, hl9, hs9⟩, rfl⟩)
                case rest =>
                  obtain ⟨S9, A9, c9, LL, HLN9, P9⟩ := hcut
                  rename World => V10
                  clear HR9
                  have HL9 : Hid (LL.length ≤ 1000) := by have h1 := HLN9.out; have h2 := HLL.out; unfold Hid; omega
                  obtain ⟨bb, hbb⟩ : ∃ bb : Bool, bb = decide (N = N ∧ LL = L) := ⟨_, rfl⟩
                  have PSB : Hid (∀ V : World, Below V10.heap.size V10 V → Calls Try.prog 22 #[.pointer (some ⟨p, 0, none⟩), .pointer (some ⟨pc, 0, none⟩)] V fun r w' => r = .returned (.bool bb) ∧ Below V.heap.size V w') := fun V hV => (psame_any (P9.out.1.later hV).g (P9.out.2.1.later hV).g (Nat.le_trans HN.out (by decide)) (Nat.le_trans HN.out (by decide)) (Nat.le_trans HL9.out (by decide)) (Nat.le_trans HLL.out (by decide))).mono fun r w' hh => ⟨by rw [hh.1, hbb], hh.2⟩
                  have RSB : Hid (∀ V : World, Below V10.heap.size V10 V → Calls Try.prog 20 #[.agg #[.int .i64 (N : Int), .slice A9 LL.length c9], .agg #[.int .i64 (N : Int), .slice A L.length c]] V fun r w' => r = .returned (.bool bb) ∧ Below V.heap.size V w') := fun V hV => (rsame_any (N := N) (N' := N) (L := LL) (L' := L) (P9.out.1.later hV).rd (P9.out.2.1.later hV).rd (Nat.le_refl _) (Nat.le_refl _) (Nat.le_trans HL9.out (by decide))).mono fun r w' hh => ⟨by rw [hh.1, hbb], hh.2⟩
                  clear hbb
                  go_upto_region 33 with (fail)
                  refine wp_region_midT (N := 175) 23 (fun i v ww => ([fun v ww => v = .pointer (some ⟨p, 0, none⟩), fun v ww => v = .agg #[.int .i64 (N : Int), .slice A9 LL.length c9], fun v ww => v = .int .i64 n, fun v ww => v = .int .i64 m, fun v ww => v = .agg #[.int .i64 x1, .int .i64 x2, .int .i64 x3], fun v ww => v = .bool true, fun v ww => v = .bool false, fun v ww => v = .bool false, fun v ww => v = .pointer (some ⟨pc, 0, none⟩), fun v ww => ∃ A1 c1 B1, v = .agg #[.int .i64 (N : Int), .slice A1 L.length c1] ∧ Rd ww B1 3 A1 L.length (ec L) ∧ B1 ≤ ww.heap.size, fun v ww => v = .agg #[.int .i64 (N : Int), .slice A L.length c], fun v ww => v = .bool true, fun v ww => v = .bool false, fun v ww => v = .bool false, fun v ww => v = .bool false, fun v ww => v = .pointer (some ⟨p, 0, none⟩), fun v ww => v = .pointer (some ⟨pc, 0, none⟩), fun v ww => v = .bool bb, fun v ww => v = .agg #[.int .i64 (N : Int), .slice A9 LL.length c9], fun v ww => v = .agg #[.int .i64 (N : Int), .slice A L.length c], fun v ww => v = .bool bb, fun v ww => v = .bool false, fun v ww => v = .bool false] : List (Value → World → Prop)).getD i (fun _ _ => True) v ww) (by kernel_rfl) (by kernel_rfl) (by kernel_rfl) rfl ?_ ?_ ?_
                  · intro i v wa wb h0 hb hp
                    by_cases hi : i < 23
                    · have hcase : i = 0 ∨ i = 1 ∨ i = 2 ∨ i = 3 ∨ i = 4 ∨ i = 5 ∨ i = 6 ∨ i = 7 ∨ i = 8 ∨ i = 9 ∨ i = 10 ∨ i = 11 ∨ i = 12 ∨ i = 13 ∨ i = 14 ∨ i = 15 ∨ i = 16 ∨ i = 17 ∨ i = 18 ∨ i = 19 ∨ i = 20 ∨ i = 21 ∨ i = 22 := by omega
                      rcases hcase with rfl | rfl | rfl | rfl | rfl | rfl | rfl | rfl | rfl | rfl | rfl | rfl | rfl | rfl | rfl | rfl | rfl | rfl | rfl | rfl | rfl | rfl | rfl
                      · exact hp
                      · exact hp
                      · exact hp
                      · exact hp
                      · exact hp
                      · exact hp
                      · exact hp
                      · exact hp
                      · exact hp
                      · obtain ⟨A1, c1, B1, e, hr, hB1⟩ := hp
                        exact ⟨A1, c1, B1, e, hr.below (hb.mono hB1), Nat.le_trans hB1 hb.size⟩
                      · exact hp
                      · exact hp
                      · exact hp
                      · exact hp
                      · exact hp
                      · exact hp
                      · exact hp
                      · exact hp
                      · exact hp
                      · exact hp
                      · exact hp
                      · exact hp
                      · exact hp
                    · have hnn : ([fun v ww => v = .pointer (some ⟨p, 0, none⟩), fun v ww => v = .agg #[.int .i64 (N : Int), .slice A9 LL.length c9], fun v ww => v = .int .i64 n, fun v ww => v = .int .i64 m, fun v ww => v = .agg #[.int .i64 x1, .int .i64 x2, .int .i64 x3], fun v ww => v = .bool true, fun v ww => v = .bool false, fun v ww => v = .bool false, fun v ww => v = .pointer (some ⟨pc, 0, none⟩), fun v ww => ∃ A1 c1 B1, v = .agg #[.int .i64 (N : Int), .slice A1 L.length c1] ∧ Rd ww B1 3 A1 L.length (ec L) ∧ B1 ≤ ww.heap.size, fun v ww => v = .agg #[.int .i64 (N : Int), .slice A L.length c], fun v ww => v = .bool true, fun v ww => v = .bool false, fun v ww => v = .bool false, fun v ww => v = .bool false, fun v ww => v = .pointer (some ⟨p, 0, none⟩), fun v ww => v = .pointer (some ⟨pc, 0, none⟩), fun v ww => v = .bool bb, fun v ww => v = .agg #[.int .i64 (N : Int), .slice A9 LL.length c9], fun v ww => v = .agg #[.int .i64 (N : Int), .slice A L.length c], fun v ww => v = .bool bb, fun v ww => v = .bool false, fun v ww => v = .bool false] : List (Value → World → Prop))[i]? = none := List.getElem?_eq_none (by simpa using hi)
                      rw [List.getD_eq_getElem?_getD, hnn]
                      trivial
                  · intro i o a wx hi8 hi hM hD
                    have hcase : i = 0 ∨ i = 1 ∨ i = 2 ∨ i = 3 ∨ i = 4 ∨ i = 5 ∨ i = 6 ∨ i = 7 ∨ i = 8 ∨ i = 9 ∨ i = 10 ∨ i = 11 ∨ i = 12 ∨ i = 13 ∨ i = 14 ∨ i = 15 ∨ i = 16 ∨ i = 17 ∨ i = 18 ∨ i = 19 ∨ i = 20 ∨ i = 21 ∨ i = 22 := by omega
                    clear hi8
                    rcases hcase with rfl | rfl | rfl | rfl | rfl | rfl | rfl | rfl | rfl | rfl | rfl | rfl | rfl | rfl | rfl | rfl | rfl | rfl | rfl | rfl | rfl | rfl | rfl
                    · obtain rfl := Option.some.inj hi
                      have e9 : a.tmps.getD 9 undef = .pointer (some ⟨p, 0, none⟩) := (hM.other 9 (by decide +kernel)).trans rfl
                      refine ⟨rfl, mid_step (.pointer (some ⟨p, 0, none⟩)) wx (fun K hK => ?_) ⟨_, rfl, rfl, Below.refl _ _⟩⟩
                      go_simp
                      exact hK
                    · obtain rfl := Option.some.inj hi
                      have e11 : a.tmps.getD 11 undef = .pointer (some ⟨br, 0, none⟩) := (hM.other 11 (by decide +kernel)).trans rfl
                      have hPX := P9.out.1.later hM.below
                      have hWX := P9.out.2.1.later hM.below
                      obtain ⟨q0, q1⟩ := hPX.cells
                      obtain ⟨⟨m0, m1, m2⟩, o0, o1⟩ := hWX.xc
                      refine ⟨rfl, mid_step (.agg #[.int .i64 (N : Int), .slice A9 LL.length c9]) wx (fun K hK => ?_) ⟨_, rfl, rfl, Below.refl _ _⟩⟩
                      go_simp
                      exact hK
                    · obtain rfl := Option.some.inj hi
                      have e2 : a.tmps.getD 2 undef = .int .i64 n := (hM.other 2 (by decide +kernel)).trans rfl
                      refine ⟨rfl, mid_step (.int .i64 n) wx (fun K hK => ?_) ⟨_, rfl, rfl, Below.refl _ _⟩⟩
                      go_simp
                      exact hK
                    · obtain rfl := Option.some.inj hi
                      have e3 : a.tmps.getD 3 undef = .int .i64 m := (hM.other 3 (by decide +kernel)).trans rfl
                      refine ⟨rfl, mid_step (.int .i64 m) wx (fun K hK => ?_) ⟨_, rfl, rfl, Below.refl _ _⟩⟩
                      go_simp
                      exact hK
                    · obtain rfl := Option.some.inj hi
                      have e17 : a.tmps.getD 17 undef = .pointer (some ⟨bx, 0, none⟩) := (hM.other 17 (by decide +kernel)).trans rfl
                      have hPX := P9.out.1.later hM.below
                      have hWX := P9.out.2.1.later hM.below
                      obtain ⟨q0, q1⟩ := hPX.cells
                      obtain ⟨⟨m0, m1, m2⟩, o0, o1⟩ := hWX.xc
                      refine ⟨rfl, mid_step (.agg #[.int .i64 x1, .int .i64 x2, .int .i64 x3]) wx (fun K hK => ?_) ⟨_, rfl, rfl, Below.refl _ _⟩⟩
                      go_simp
                      exact hK
                    · obtain rfl := Option.some.inj hi
                      have e145 : a.tmps.getD 145 undef = .pointer (some ⟨p, 0, none⟩) := hD 0 (by kernel_rfl) _ 145 rfl rfl
                      have e146 : a.tmps.getD 146 undef = .agg #[.int .i64 (N : Int), .slice A9 LL.length c9] := hD 1 (by kernel_rfl) _ 146 rfl rfl
                      have e147 : a.tmps.getD 147 undef = .int .i64 n := hD 2 (by kernel_rfl) _ 147 rfl rfl
                      have e148 : a.tmps.getD 148 undef = .int .i64 m := hD 3 (by kernel_rfl) _ 148 rfl rfl
                      have e149 : a.tmps.getD 149 undef = .agg #[.int .i64 x1, .int .i64 x2, .int .i64 x3] := hD 4 (by kernel_rfl) _ 149 rfl rfl
                      refine ⟨rfl, mid_call (fun v w' => v = .bool true ∧ Below wx.heap.size wx w') (fun K hK => ?_) (fun v w' h => ⟨v, rfl, h.1, h.2⟩)⟩
                      go_simp
                      refine (is_any (c := c9) (P9.out.1.later hM.below).g (P9.out.1.later hM.below).rd (Nat.le_refl _) (Nat.le_trans HN.out (by decide)) HL9.out n m (x1, x2, x3) HXO.out).mono ?_
                      rintro e w' ⟨rfl, hb'⟩
                      exact hK _ _ ⟨rfl, hb'⟩
                    · obtain rfl := Option.some.inj hi
                      have e150 : a.tmps.getD 150 undef = .bool true := hD 5 (by kernel_rfl) _ 150 rfl rfl
                      refine ⟨rfl, mid_step (.bool false) wx (fun K hK => ?_) ⟨_, rfl, rfl, Below.refl _ _⟩⟩
                      go_simp
                      exact hK
                    · obtain rfl := Option.some.inj hi
                      have e151 : a.tmps.getD 151 undef = .bool false := hD 6 (by kernel_rfl) _ 151 rfl rfl
                      refine ⟨rfl, mid_step (.bool false) wx (fun K hK => ?_) ⟨_, rfl, rfl, Below.refl _ _⟩⟩
                      go_simp
                      exact hK
                    · obtain rfl := Option.some.inj hi
                      have e152 : a.tmps.getD 152 undef = .bool false := hD 7 (by kernel_rfl) _ 152 rfl rfl
                      have e15 : a.tmps.getD 15 undef = .pointer (some ⟨pc, 0, none⟩) := (hM.other 15 (by decide +kernel)).trans rfl
                      refine ⟨wanted_yes 7 152 rfl rfl rfl e152, mid_step (.pointer (some ⟨pc, 0, none⟩)) wx (fun K hK => ?_) ⟨_, rfl, rfl, Below.refl _ _⟩⟩
                      go_simp
                      exact hK
                    · obtain rfl := Option.some.inj hi
                      have e152 : a.tmps.getD 152 undef = .bool false := hD 7 (by kernel_rfl) _ 152 rfl rfl
                      have e153 : a.tmps.getD 153 undef = .pointer (some ⟨pc, 0, none⟩) := hD 8 (by kernel_rfl) _ 153 rfl rfl
                      refine ⟨wanted_yes 7 152 rfl rfl rfl e152, mid_call (fun v w' => (∃ A1 c1 B1, v = .agg #[.int .i64 (N : Int), .slice A1 L.length c1] ∧ Rd w' B1 3 A1 L.length (ec L) ∧ B1 ≤ w'.heap.size) ∧ Below wx.heap.size wx w') (fun K hK => ?_) (fun v w' h => ⟨v, rfl, h.1, h.2⟩)⟩
                      go_simp
                      refine (rgraph_any (P9.out.2.1.later hM.below).g (Nat.le_trans HN.out (by decide)) (Nat.le_trans HLL.out (by decide))).mono ?_
                      rintro e w' ⟨A1, c1, rfl, hr, hb'⟩
                      exact hK _ _ ⟨⟨A1, c1, w'.heap.size, rfl, hr, Nat.le_refl _⟩, hb'⟩
                    · obtain rfl := Option.some.inj hi
                      have e152 : a.tmps.getD 152 undef = .bool false := hD 7 (by kernel_rfl) _ 152 rfl rfl
                      have e16 : a.tmps.getD 16 undef = .pointer (some ⟨bw, 0, none⟩) := (hM.other 16 (by decide +kernel)).trans rfl
                      have hPX := P9.out.1.later hM.below
                      have hWX := P9.out.2.1.later hM.below
                      obtain ⟨q0, q1⟩ := hPX.cells
                      obtain ⟨⟨m0, m1, m2⟩, o0, o1⟩ := hWX.xc
                      refine ⟨wanted_yes 7 152 rfl rfl rfl e152, mid_step (.agg #[.int .i64 (N : Int), .slice A L.length c]) wx (fun K hK => ?_) ⟨_, rfl, rfl, Below.refl _ _⟩⟩
                      go_simp
                      exact hK
                    · obtain rfl := Option.some.inj hi
                      have e152 : a.tmps.getD 152 undef = .bool false := hD 7 (by kernel_rfl) _ 152 rfl rfl
                      obtain ⟨A1, c1, B1, e154, hr, hB1⟩ := hD 9 (by kernel_rfl) _ 154 rfl rfl
                      have e155 : a.tmps.getD 155 undef = .agg #[.int .i64 (N : Int), .slice A L.length c] := hD 10 (by kernel_rfl) _ 155 rfl rfl
                      refine ⟨wanted_yes 7 152 rfl rfl rfl e152, mid_call (fun v w' => v = .bool true ∧ Below wx.heap.size wx w') (fun K hK => ?_) (fun v w' h => ⟨v, rfl, h.1, h.2⟩)⟩
                      go_simp
                      refine (rsame_any (N := N) (N' := N) (L := L) (L' := L) hr (P9.out.2.1.later hM.below).rd hB1 (Nat.le_refl _) (Nat.le_trans HLL.out (by decide))).mono ?_
                      rintro e w' ⟨rfl, hb'⟩
                      exact hK _ _ ⟨by simp, hb'⟩
                    · obtain rfl := Option.some.inj hi
                      have e152 : a.tmps.getD 152 undef = .bool false := hD 7 (by kernel_rfl) _ 152 rfl rfl
                      have e156 : a.tmps.getD 156 undef = .bool true := hD 11 (by kernel_rfl) _ 156 rfl rfl
                      refine ⟨wanted_yes 7 152 rfl rfl rfl e152, mid_step (.bool false) wx (fun K hK => ?_) ⟨_, rfl, rfl, Below.refl _ _⟩⟩
                      go_simp
                      exact hK
                    · obtain rfl := Option.some.inj hi
                      have e152 : a.tmps.getD 152 undef = .bool false := hD 7 (by kernel_rfl) _ 152 rfl rfl
                      have e157 : a.tmps.getD 157 undef = .bool false := hD 12 (by kernel_rfl) _ 157 rfl rfl
                      refine ⟨rfl, mid_step (.bool false) wx (fun K hK => ?_) ⟨_, rfl, rfl, Below.refl _ _⟩⟩
                      go_simp
                      exact hK
                    · obtain rfl := Option.some.inj hi
                      have e158 : a.tmps.getD 158 undef = .bool false := hD 13 (by kernel_rfl) _ 158 rfl rfl
                      refine ⟨rfl, mid_step (.bool false) wx (fun K hK => ?_) ⟨_, rfl, rfl, Below.refl _ _⟩⟩
                      go_simp
                      exact hK
                    · obtain rfl := Option.some.inj hi
                      have e159 : a.tmps.getD 159 undef = .bool false := hD 14 (by kernel_rfl) _ 159 rfl rfl
                      have e9 : a.tmps.getD 9 undef = .pointer (some ⟨p, 0, none⟩) := (hM.other 9 (by decide +kernel)).trans rfl
                      refine ⟨wanted_yes 14 159 rfl rfl rfl e159, mid_step (.pointer (some ⟨p, 0, none⟩)) wx (fun K hK => ?_) ⟨_, rfl, rfl, Below.refl _ _⟩⟩
                      go_simp
                      exact hK
                    · obtain rfl := Option.some.inj hi
                      have e159 : a.tmps.getD 159 undef = .bool false := hD 14 (by kernel_rfl) _ 159 rfl rfl
                      have e15 : a.tmps.getD 15 undef = .pointer (some ⟨pc, 0, none⟩) := (hM.other 15 (by decide +kernel)).trans rfl
                      refine ⟨wanted_yes 14 159 rfl rfl rfl e159, mid_step (.pointer (some ⟨pc, 0, none⟩)) wx (fun K hK => ?_) ⟨_, rfl, rfl, Below.refl _ _⟩⟩
                      go_simp
                      exact hK
                    · obtain rfl := Option.some.inj hi
                      have e159 : a.tmps.getD 159 undef = .bool false := hD 14 (by kernel_rfl) _ 159 rfl rfl
                      have e160 : a.tmps.getD 160 undef = .pointer (some ⟨p, 0, none⟩) := hD 15 (by kernel_rfl) _ 160 rfl rfl
                      have e161 : a.tmps.getD 161 undef = .pointer (some ⟨pc, 0, none⟩) := hD 16 (by kernel_rfl) _ 161 rfl rfl
                      refine ⟨wanted_yes 14 159 rfl rfl rfl e159, mid_call (fun v w' => v = .bool bb ∧ Below wx.heap.size wx w') (fun K hK => ?_) (fun v w' h => ⟨v, rfl, h.1, h.2⟩)⟩
                      go_simp
                      refine (PSB.out wx hM.below).mono ?_
                      rintro e w' ⟨rfl, hb'⟩
                      exact hK _ _ ⟨rfl, hb'⟩
                    · obtain rfl := Option.some.inj hi
                      have e159 : a.tmps.getD 159 undef = .bool false := hD 14 (by kernel_rfl) _ 159 rfl rfl
                      have e11 : a.tmps.getD 11 undef = .pointer (some ⟨br, 0, none⟩) := (hM.other 11 (by decide +kernel)).trans rfl
                      have hPX := P9.out.1.later hM.below
                      have hWX := P9.out.2.1.later hM.below
                      obtain ⟨q0, q1⟩ := hPX.cells
                      obtain ⟨⟨m0, m1, m2⟩, o0, o1⟩ := hWX.xc
                      refine ⟨wanted_yes 14 159 rfl rfl rfl e159, mid_step (.agg #[.int .i64 (N : Int), .slice A9 LL.length c9]) wx (fun K hK => ?_) ⟨_, rfl, rfl, Below.refl _ _⟩⟩
                      go_simp
                      exact hK
                    · obtain rfl := Option.some.inj hi
                      have e159 : a.tmps.getD 159 undef = .bool false := hD 14 (by kernel_rfl) _ 159 rfl rfl
                      have e16 : a.tmps.getD 16 undef = .pointer (some ⟨bw, 0, none⟩) := (hM.other 16 (by decide +kernel)).trans rfl
                      have hPX := P9.out.1.later hM.below
                      have hWX := P9.out.2.1.later hM.below
                      obtain ⟨q0, q1⟩ := hPX.cells
                      obtain ⟨⟨m0, m1, m2⟩, o0, o1⟩ := hWX.xc
                      refine ⟨wanted_yes 14 159 rfl rfl rfl e159, mid_step (.agg #[.int .i64 (N : Int), .slice A L.length c]) wx (fun K hK => ?_) ⟨_, rfl, rfl, Below.refl _ _⟩⟩
                      go_simp
                      exact hK
                    · obtain rfl := Option.some.inj hi
                      have e159 : a.tmps.getD 159 undef = .bool false := hD 14 (by kernel_rfl) _ 159 rfl rfl
                      have e163 : a.tmps.getD 163 undef = .agg #[.int .i64 (N : Int), .slice A9 LL.length c9] := hD 18 (by kernel_rfl) _ 163 rfl rfl
                      have e164 : a.tmps.getD 164 undef = .agg #[.int .i64 (N : Int), .slice A L.length c] := hD 19 (by kernel_rfl) _ 164 rfl rfl
                      refine ⟨wanted_yes 14 159 rfl rfl rfl e159, mid_call (fun v w' => v = .bool bb ∧ Below wx.heap.size wx w') (fun K hK => ?_) (fun v w' h => ⟨v, rfl, h.1, h.2⟩)⟩
                      go_simp
                      refine (RSB.out wx hM.below).mono ?_
                      rintro e w' ⟨rfl, hb'⟩
                      exact hK _ _ ⟨rfl, hb'⟩
                    · obtain rfl := Option.some.inj hi
                      have e159 : a.tmps.getD 159 undef = .bool false := hD 14 (by kernel_rfl) _ 159 rfl rfl
                      have e162 : a.tmps.getD 162 undef = .bool bb := hD 17 (by kernel_rfl) _ 162 rfl rfl
                      have e165 : a.tmps.getD 165 undef = .bool bb := hD 20 (by kernel_rfl) _ 165 rfl rfl
                      refine ⟨wanted_yes 14 159 rfl rfl rfl e159, mid_step (.bool false) wx (fun K hK => ?_) ⟨_, rfl, rfl, Below.refl _ _⟩⟩
                      go_simp
                      exact hK
                    · obtain rfl := Option.some.inj hi
                      have e159 : a.tmps.getD 159 undef = .bool false := hD 14 (by kernel_rfl) _ 159 rfl rfl
                      have e166 : a.tmps.getD 166 undef = .bool false := hD 21 (by kernel_rfl) _ 166 rfl rfl
                      refine ⟨rfl, mid_step (.bool false) wx (fun K hK => ?_) ⟨_, rfl, rfl, Below.refl _ _⟩⟩
                      go_simp
                      exact hK
                  · intro a wx hM hU hD
                    have q0 := hD 0 (by decide) _ 145 rfl rfl
                    have q1 := hD 1 (by decide) _ 146 rfl rfl
                    have q2 := hD 2 (by decide) _ 147 rfl rfl
                    have q3 := hD 3 (by decide) _ 148 rfl rfl
                    have q4 := hD 4 (by decide) _ 149 rfl rfl
                    have q5 := hD 5 (by decide) _ 150 rfl rfl
                    have q6 := hD 6 (by decide) _ 151 rfl rfl
                    have q7 := hD 7 (by decide) _ 152 rfl rfl
                    have q8 := hD 8 (by decide) _ 153 rfl rfl
                    obtain ⟨A90, c90, B90, e90r, hr90, hB90⟩ := hD 9 (by decide) _ 154 rfl rfl
                    have q9 : a.tmps.getD 154 undef = .agg #[.int .i64 (N : Int), .slice A90 L.length c90] := by assumption
                    have q10 := hD 10 (by decide) _ 155 rfl rfl
                    have q11 := hD 11 (by decide) _ 156 rfl rfl
                    have q12 := hD 12 (by decide) _ 157 rfl rfl
                    have q13 := hD 13 (by decide) _ 158 rfl rfl
                    have q14 := hD 14 (by decide) _ 159 rfl rfl
                    have q15 := hD 15 (by decide) _ 160 rfl rfl
                    have q16 := hD 16 (by decide) _ 161 rfl rfl
                    have q17 := hD 17 (by decide) _ 162 rfl rfl
                    have q18 := hD 18 (by decide) _ 163 rfl rfl
                    have q19 := hD 19 (by decide) _ 164 rfl rfl
                    have q20 := hD 20 (by decide) _ 165 rfl rfl
                    have q21 := hD 21 (by decide) _ 166 rfl rfl
                    have q22 := hD 22 (by decide) _ 167 rfl rfl
                    have hact := act_puts (a := a) [(145, .pointer (some ⟨p, 0, none⟩)), (146, .agg #[.int .i64 (N : Int), .slice A9 LL.length c9]), (147, .int .i64 n), (148, .int .i64 m), (149, .agg #[.int .i64 x1, .int .i64 x2, .int .i64 x3]), (150, .bool true), (151, .bool false), (152, .bool false), (153, .pointer (some ⟨pc, 0, none⟩)), (154, .agg #[.int .i64 (N : Int), .slice A90 L.length c90]), (155, .agg #[.int .i64 (N : Int), .slice A L.length c]), (156, .bool true), (157, .bool false), (158, .bool false), (159, .bool false), (160, .pointer (some ⟨p, 0, none⟩)), (161, .pointer (some ⟨pc, 0, none⟩)), (162, .bool bb), (163, .agg #[.int .i64 (N : Int), .slice A9 LL.length c9]), (164, .agg #[.int .i64 (N : Int), .slice A L.length c]), (165, .bool bb), (166, .bool false), (167, .bool false)] _ hM.tmps hM.defers (by
                      intro s v hm
                      simp only [List.mem_cons, Prod.mk.injEq, List.not_mem_nil, or_false] at hm
                      rcases hm with ⟨rfl, rfl⟩ | ⟨rfl, rfl⟩ | ⟨rfl, rfl⟩ | ⟨rfl, rfl⟩ | ⟨rfl, rfl⟩ | ⟨rfl, rfl⟩ | ⟨rfl, rfl⟩ | ⟨rfl, rfl⟩ | ⟨rfl, rfl⟩ | ⟨rfl, rfl⟩ | ⟨rfl, rfl⟩ | ⟨rfl, rfl⟩ | ⟨rfl, rfl⟩ | ⟨rfl, rfl⟩ | ⟨rfl, rfl⟩ | ⟨rfl, rfl⟩ | ⟨rfl, rfl⟩ | ⟨rfl, rfl⟩ | ⟨rfl, rfl⟩ | ⟨rfl, rfl⟩ | ⟨rfl, rfl⟩ | ⟨rfl, rfl⟩ | ⟨rfl, rfl⟩
                      · exact ⟨(by show 145 < 175; decide), q0⟩
                      · exact ⟨(by show 146 < 175; decide), q1⟩
                      · exact ⟨(by show 147 < 175; decide), q2⟩
                      · exact ⟨(by show 148 < 175; decide), q3⟩
                      · exact ⟨(by show 149 < 175; decide), q4⟩
                      · exact ⟨(by show 150 < 175; decide), q5⟩
                      · exact ⟨(by show 151 < 175; decide), q6⟩
                      · exact ⟨(by show 152 < 175; decide), q7⟩
                      · exact ⟨(by show 153 < 175; decide), q8⟩
                      · exact ⟨(by show 154 < 175; decide), q9⟩
                      · exact ⟨(by show 155 < 175; decide), q10⟩
                      · exact ⟨(by show 156 < 175; decide), q11⟩
                      · exact ⟨(by show 157 < 175; decide), q12⟩
                      · exact ⟨(by show 158 < 175; decide), q13⟩
                      · exact ⟨(by show 159 < 175; decide), q14⟩
                      · exact ⟨(by show 160 < 175; decide), q15⟩
                      · exact ⟨(by show 161 < 175; decide), q16⟩
                      · exact ⟨(by show 162 < 175; decide), q17⟩
                      · exact ⟨(by show 163 < 175; decide), q18⟩
                      · exact ⟨(by show 164 < 175; decide), q19⟩
                      · exact ⟨(by show 165 < 175; decide), q20⟩
                      · exact ⟨(by show 166 < 175; decide), q21⟩
                      · exact ⟨(by show 167 < 175; decide), q22⟩) (fun s hs => hM.other s (by exact hs))
                    rw [hact]
                    have hBX := hM.below
                    clear hact hD hM hU q0 q1 q2 q3 q4 q5 q6 q7 q8 q9 q10 q11 q12 q13 q14 q15 q16 q17 q18 q19 q20 q21 q22
                    simp only [List.foldl, Act.put, List.setIfInBounds_toArray, List.set_cons_succ, List.set_cons_zero, List.drop_succ_cons, List.drop_zero]
                    have hs9 : Hid (Pst w.heap.size wx p br N S9 A9 c9 LL ∧ Below w.heap.size w wx) := ⟨P9.out.1.later hBX, P9.out.2.2.trans (hBX.mono P9.out.2.2.size)⟩
                    have hl9 : Hid (LL.length ≤ 12 * (j + 1)) := by have h1 := HLN9.out; have h2 := hLj.out; unfold Hid; omega
                    clear hBX P9
                    go_wp2
                    go_roundw
                    case rel => exact ⟨j + 1, c9, S9, A9, LL, by go_num, by omega, hl9, hs9⟩
                    case measure => simp [intOf]; omega
          · obtain rfl : nl = j := by omega
            have CO := Lib_hid (pcopy_any hP.out.1.g (Nat.le_trans HN.out (by decide)) (by have := hLj.out; have := HF.out.1; omega))
            go_wp2_with fail
            refine CO.out.mono ?_
            rintro r w7 ⟨pc, Sc, rfl, hgc, hb7, -⟩
            have SA := Lib_hid (psame_any (hP.out.1.later hb7).g hgc (Nat.le_trans HN.out (by decide)) (Nat.le_trans HN.out (by decide)) (by have := hLj.out; have := HF.out.1; omega) (by have := hLj.out; have := HF.out.1; omega))
            have HB7 := Lib_hid (hP.out.2.trans (hb7.mono hP.out.2.size))
            clear CO hgc hb7
            go_wp2_with fail
            refine SA.out.mono ?_
            rintro r w8 ⟨hr, hb8⟩
            obtain rfl : r = .returned (.bool true) := by rw [hr]; simp
            have HB8 := Lib_hid (HB7.out.trans (hb8.mono HB7.out.size))
            clear hb8 SA hr
            go_wp2_with fail
            refine (HW.out _).mono ?_
            rintro r w9 ⟨rfl, hb9⟩
            have hb99 := Lib_hid (HB8.out.trans (hb9.mono HB8.out.size))
            clear hb9
            go_wp2
            go_ret
            exact ⟨rfl, hb99.out⟩

end Go.Proofs.Ytopecdkkmbpnbaa
