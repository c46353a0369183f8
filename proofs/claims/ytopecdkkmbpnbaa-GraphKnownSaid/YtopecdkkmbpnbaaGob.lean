/-
  Layer 13: GraphOrders' walk.
-/
import Derived.Test.YtopecdkkmbpnbaaGoa
import Derived.Test.YtopecdkkmbpnbaaGrk
import Derived.Test.YtopecdkkmbpnbaaGgj
import Derived.Deep.CutBlock
import Derived.Deep.CutRange
namespace Go.Proofs.Ytopecdkkmbpnbaa
open Go Go.RowKit Go.Maps
set_option linter.unusedVariables false

set_option maxRecDepth 100000 in
set_option maxHeartbeats 12800000 in
theorem orders_any {w : World} {B nl cl B' no co : Nat} {Al Ao : Option Addr} {l : List Ed} {os : List Int} (d which : Int) (h : Rd w B 3 Al nl (ec l)) (hB : B ≤ w.heap.size) (hok : ∀ e ∈ l, EdOk e) (h' : Rd w B' 1 Ao no (zc os)) (hB' : B' ≤ w.heap.size) (hl : nl ≤ 9223372036854775807) (hno : no ≤ 9223372036854775807) :
    Calls Try.prog 5 #[.int .i64 d, .slice Al nl cl, .slice Ao no co, .int .i64 which] w fun e w' => e = .returned (.bool true) ∧ Below w.heap.size w w' := by
  have HW := Lib_hid (fun V : World => works_any V)
  go_enter Try.func5, Try.ntmps5
  go_upto_region 1 with (fail)
  by_cases hc : nl ≤ 40 ∧ no ≤ 40
  · obtain ⟨hc1, hc2⟩ := hc
    have d1 : decide ((40 : Int) < (nl : Int)) = false := decide_eq_false (by omega)
    have d2 : decide ((40 : Int) < (no : Int)) = false := decide_eq_false (by omega)
    have DR := Lib_hid (drawn_any (cl := cl) d h hB (show nl ≤ 10000 by omega) hok)
    have HNS := Lib_hid (fun (V : World) (hV : Below w.heap.size w V) => h'.below (hV.mono hB'))
    clear h h' hok
    go_upto_region 4 with (go_at_call 23; (with_reducible refine DR.out.mono ?_); rintro r2 w2 ⟨N, p, c, S, A, L, rfl, hN, hL, hG, hR, hb2, hS, hA⟩)
    have b3 := below_new w2 (.cells #[.int .i64 (N : Int), .slice A L.length c] 31)
    have HG := Lib_hid (And.intro (hG.later b3) (And.intro (heap_alloc_new w2 (.cells #[.int .i64 (N : Int), .slice A L.length c] 31)) (And.intro hN (Nat.le_trans hL hc1))))
    have HX3 := Lib_hid (hb2.trans (b3.mono hb2.size))
    clear hb2 b3 hG hR hA hS hN hL DR
    generalize w2.alloc (.cells #[.int .i64 (N : Int), .slice A L.length c] 31) = W3 at *
    have HN6 : Hid (N ≤ 65536 ∧ L.length ≤ 1000000 ∧ (backE L).length ≤ 1000000 ∧ Srt L) := ⟨by have := HG.out.2.2.1; omega, by have := HG.out.2.2.2; omega, by have := HG.out.2.2.2; have h2 := (addEs_len (L.map swE) []).2; rw [List.length_map] at h2; unfold backE; simp only [List.length_nil] at h2; omega, HG.out.1.srt⟩
    have GX : Hid (∀ V : World, Below W3.heap.size W3 V → GmIs V p S N L ∧ (V.cell? ⟨w2.heap.size, 0, none⟩ = some (.int .i64 (N : Int)) ∧ V.cell? ⟨w2.heap.size, 1, none⟩ = some (.slice A L.length c)) ∧ Below w.heap.size w V) := fun V hb3 => by
      have h1 := (hb3.block _ (Array.getElem?_eq_some_iff.1 HG.out.2.1).1).trans HG.out.2.1
      exact ⟨HG.out.1.later hb3, ⟨cell_of_row _ _ 0 _ _ _ h1, cell_of_row _ _ 1 _ _ _ h1⟩, HX3.out.trans (hb3.mono HX3.out.size)⟩
    have HEO : Hid (∀ e ∈ L, EdOk e ∧ 0 ≤ e.1 ∧ e.1 < N ∧ 0 ≤ e.2.1 ∧ e.2.1 < N) := HG.out.1.eds
    refine wp_region_midT (N := 270) 13 (fun i v ww => ([fun v ww => v = .pointer (some ⟨p, 0, none⟩), fun v ww => v = .pointer (some ⟨p, 0, none⟩), fun v ww => ∃ q R, v = .pointer (some ⟨q, 0, none⟩) ∧ GmIs ww q R N (backE L), fun v ww => ∃ q R, v = .pointer (some ⟨q, 0, none⟩) ∧ GmIs ww q R N L, fun v ww => v = .bool true, fun v ww => v = .bool false, fun v ww => v = .bool false, fun v ww => v = .pointer (some ⟨p, 0, none⟩), fun v ww => v = .int .i64 (N : Int), fun v ww => v = .pointer (some ⟨w2.heap.size, 0, none⟩), fun v ww => v = .int .i64 (N : Int), fun v ww => v = .bool false, fun v ww => v = .bool false] : List (Value → World → Prop)).getD i (fun _ _ => True) v ww) (by kernel_rfl) (by kernel_rfl) (by kernel_rfl) rfl ?_ ?_ ?_
    · intro i v wa wb h0 hb hp
      by_cases hi : i < 13
      · have hcase : i = 0 ∨ i = 1 ∨ i = 2 ∨ i = 3 ∨ i = 4 ∨ i = 5 ∨ i = 6 ∨ i = 7 ∨ i = 8 ∨ i = 9 ∨ i = 10 ∨ i = 11 ∨ i = 12 := by omega
        rcases hcase with rfl | rfl | rfl | rfl | rfl | rfl | rfl | rfl | rfl | rfl | rfl | rfl | rfl
        · exact hp
        · exact hp
        · obtain ⟨q, R, e, hg⟩ := hp
          exact ⟨q, R, e, hg.later hb⟩
        · obtain ⟨q, R, e, hg⟩ := hp
          exact ⟨q, R, e, hg.later hb⟩
        · exact hp
        · exact hp
        · exact hp
        · exact hp
        · exact hp
        · exact hp
        · exact hp
        · exact hp
        · exact hp
      · have hnn : ([fun v ww => v = .pointer (some ⟨p, 0, none⟩), fun v ww => v = .pointer (some ⟨p, 0, none⟩), fun v ww => ∃ q R, v = .pointer (some ⟨q, 0, none⟩) ∧ GmIs ww q R N (backE L), fun v ww => ∃ q R, v = .pointer (some ⟨q, 0, none⟩) ∧ GmIs ww q R N L, fun v ww => v = .bool true, fun v ww => v = .bool false, fun v ww => v = .bool false, fun v ww => v = .pointer (some ⟨p, 0, none⟩), fun v ww => v = .int .i64 (N : Int), fun v ww => v = .pointer (some ⟨w2.heap.size, 0, none⟩), fun v ww => v = .int .i64 (N : Int), fun v ww => v = .bool false, fun v ww => v = .bool false] : List (Value → World → Prop))[i]? = none := List.getElem?_eq_none (by simpa using hi)
        rw [List.getD_eq_getElem?_getD, hnn]
        trivial
    · intro i o a wx hi8 hi hM hD
      have hcase : i = 0 ∨ i = 1 ∨ i = 2 ∨ i = 3 ∨ i = 4 ∨ i = 5 ∨ i = 6 ∨ i = 7 ∨ i = 8 ∨ i = 9 ∨ i = 10 ∨ i = 11 ∨ i = 12 := by omega
      clear hi8
      rcases hcase with rfl | rfl | rfl | rfl | rfl | rfl | rfl | rfl | rfl | rfl | rfl | rfl | rfl
      · obtain rfl := Option.some.inj hi
        have e9 : a.tmps.getD 9 undef = .pointer (some ⟨p, 0, none⟩) := (hM.other 9 (by decide +kernel)).trans rfl
        refine ⟨rfl, mid_step (.pointer (some ⟨p, 0, none⟩)) wx (fun K hK => ?_) ⟨_, rfl, rfl, Below.refl _ _⟩⟩
        go_simp
        exact hK
      · obtain rfl := Option.some.inj hi
        have e9 : a.tmps.getD 9 undef = .pointer (some ⟨p, 0, none⟩) := (hM.other 9 (by decide +kernel)).trans rfl
        refine ⟨rfl, mid_step (.pointer (some ⟨p, 0, none⟩)) wx (fun K hK => ?_) ⟨_, rfl, rfl, Below.refl _ _⟩⟩
        go_simp
        exact hK
      · obtain rfl := Option.some.inj hi
        have e45 : a.tmps.getD 45 undef = .pointer (some ⟨p, 0, none⟩) := hD 1 (by kernel_rfl) _ 45 rfl rfl
        refine ⟨rfl, mid_call (fun v w' => (∃ q R, v = .pointer (some ⟨q, 0, none⟩) ∧ GmIs w' q R N (backE L)) ∧ Below wx.heap.size wx w') (fun K hK => ?_) (fun v w' h => ⟨v, rfl, h.1, h.2⟩)⟩
        go_simp
        refine (pback_any (GX.out _ hM.below).1 HN6.out.1 HN6.out.2.1).mono ?_
        rintro e w' ⟨q, R, rfl, hg, hb', -⟩
        exact hK _ _ ⟨⟨q, R, rfl, hg⟩, hb'⟩
      · obtain rfl := Option.some.inj hi
        obtain ⟨q, R, e46, hq⟩ := hD 2 (by kernel_rfl) _ 46 rfl rfl
        refine ⟨rfl, mid_call (fun v w' => (∃ q R, v = .pointer (some ⟨q, 0, none⟩) ∧ GmIs w' q R N L) ∧ Below wx.heap.size wx w') (fun K hK => ?_) (fun v w' h => ⟨v, rfl, h.1, h.2⟩)⟩
        go_simp
        refine (pback_any hq HN6.out.1 HN6.out.2.2.1).mono ?_
        rintro e w' ⟨q2, R2, rfl, hg, hb', -⟩
        rw [backE_backE HN6.out.2.2.2] at hg
        exact hK _ _ ⟨⟨q2, R2, rfl, hg⟩, hb'⟩
      · obtain rfl := Option.some.inj hi
        have e44 : a.tmps.getD 44 undef = .pointer (some ⟨p, 0, none⟩) := hD 0 (by kernel_rfl) _ 44 rfl rfl
        obtain ⟨q, R, e47, hq⟩ := hD 3 (by kernel_rfl) _ 47 rfl rfl
        refine ⟨rfl, mid_call (fun v w' => v = .bool true ∧ Below wx.heap.size wx w') (fun K hK => ?_) (fun v w' h => ⟨v, rfl, h.1, h.2⟩)⟩
        go_simp
        refine (psame_any (GX.out _ hM.below).1 hq HN6.out.1 HN6.out.1 HN6.out.2.1 HN6.out.2.1).mono ?_
        rintro e w' ⟨rfl, hb'⟩
        exact hK _ _ ⟨by simp, hb'⟩
      · obtain rfl := Option.some.inj hi
        have e48 : a.tmps.getD 48 undef = .bool true := hD 4 (by kernel_rfl) _ 48 rfl rfl
        refine ⟨rfl, mid_step (.bool false) wx (fun K hK => ?_) ⟨_, rfl, rfl, Below.refl _ _⟩⟩
        go_simp
        exact hK
      · obtain rfl := Option.some.inj hi
        have e49 : a.tmps.getD 49 undef = .bool false := hD 5 (by kernel_rfl) _ 49 rfl rfl
        refine ⟨rfl, mid_step (.bool false) wx (fun K hK => ?_) ⟨_, rfl, rfl, Below.refl _ _⟩⟩
        go_simp
        exact hK
      · obtain rfl := Option.some.inj hi
        have e50 : a.tmps.getD 50 undef = .bool false := hD 6 (by kernel_rfl) _ 50 rfl rfl
        have e9 : a.tmps.getD 9 undef = .pointer (some ⟨p, 0, none⟩) := (hM.other 9 (by decide +kernel)).trans rfl
        refine ⟨wanted_yes 6 50 rfl rfl rfl e50, mid_step (.pointer (some ⟨p, 0, none⟩)) wx (fun K hK => ?_) ⟨_, rfl, rfl, Below.refl _ _⟩⟩
        go_simp
        exact hK
      · obtain rfl := Option.some.inj hi
        have e50 : a.tmps.getD 50 undef = .bool false := hD 6 (by kernel_rfl) _ 50 rfl rfl
        have e51 : a.tmps.getD 51 undef = .pointer (some ⟨p, 0, none⟩) := hD 7 (by kernel_rfl) _ 51 rfl rfl
        refine ⟨wanted_yes 6 50 rfl rfl rfl e50, mid_call (fun v w' => v = .int .i64 (N : Int) ∧ Below wx.heap.size wx w') (fun K hK => ?_) (fun v w' h => ⟨v, rfl, h.1, h.2⟩)⟩
        go_simp
        refine (plen_any (GX.out _ hM.below).1).mono ?_
        rintro e w' ⟨rfl, rfl⟩
        exact hK _ _ ⟨rfl, Below.refl _ _⟩
      · obtain rfl := Option.some.inj hi
        have e50 : a.tmps.getD 50 undef = .bool false := hD 6 (by kernel_rfl) _ 50 rfl rfl
        have e10 : a.tmps.getD 10 undef = .pointer (some ⟨w2.heap.size, 0, none⟩) := (hM.other 10 (by decide +kernel)).trans rfl
        refine ⟨wanted_yes 6 50 rfl rfl rfl e50, mid_step (.pointer (some ⟨w2.heap.size, 0, none⟩)) wx (fun K hK => ?_) ⟨_, rfl, rfl, Below.refl _ _⟩⟩
        go_simp
        exact hK
      · obtain rfl := Option.some.inj hi
        have e50 : a.tmps.getD 50 undef = .bool false := hD 6 (by kernel_rfl) _ 50 rfl rfl
        have e53 : a.tmps.getD 53 undef = .pointer (some ⟨w2.heap.size, 0, none⟩) := hD 9 (by kernel_rfl) _ 53 rfl rfl
        obtain ⟨q0, q1⟩ := (GX.out _ hM.below).2.1
        refine ⟨wanted_yes 6 50 rfl rfl rfl e50, mid_step (.int .i64 (N : Int)) wx (fun K hK => ?_) ⟨_, rfl, rfl, Below.refl _ _⟩⟩
        go_simp
        exact hK
      · obtain rfl := Option.some.inj hi
        have e50 : a.tmps.getD 50 undef = .bool false := hD 6 (by kernel_rfl) _ 50 rfl rfl
        have e52 : a.tmps.getD 52 undef = .int .i64 (N : Int) := hD 8 (by kernel_rfl) _ 52 rfl rfl
        have e54 : a.tmps.getD 54 undef = .int .i64 (N : Int) := hD 10 (by kernel_rfl) _ 54 rfl rfl
        refine ⟨wanted_yes 6 50 rfl rfl rfl e50, mid_step (.bool false) wx (fun K hK => ?_) ⟨_, rfl, rfl, Below.refl _ _⟩⟩
        go_simp
        exact hK
      · obtain rfl := Option.some.inj hi
        have e50 : a.tmps.getD 50 undef = .bool false := hD 6 (by kernel_rfl) _ 50 rfl rfl
        have e55 : a.tmps.getD 55 undef = .bool false := hD 11 (by kernel_rfl) _ 55 rfl rfl
        refine ⟨rfl, mid_step (.bool false) wx (fun K hK => ?_) ⟨_, rfl, rfl, Below.refl _ _⟩⟩
        go_simp
        exact hK
    · intro a wx hM hU hD
      have q0 := hD 0 (by decide) _ 44 rfl rfl
      have q1 := hD 1 (by decide) _ 45 rfl rfl
      obtain ⟨p2, R2, e2r, hg2⟩ := hD 2 (by decide) _ 46 rfl rfl
      have q2 : a.tmps.getD 46 undef = .pointer (some ⟨p2, 0, none⟩) := by assumption
      obtain ⟨p3, R3, e3r, hg3⟩ := hD 3 (by decide) _ 47 rfl rfl
      have q3 : a.tmps.getD 47 undef = .pointer (some ⟨p3, 0, none⟩) := by assumption
      have q4 := hD 4 (by decide) _ 48 rfl rfl
      have q5 := hD 5 (by decide) _ 49 rfl rfl
      have q6 := hD 6 (by decide) _ 50 rfl rfl
      have q7 := hD 7 (by decide) _ 51 rfl rfl
      have q8 := hD 8 (by decide) _ 52 rfl rfl
      have q9 := hD 9 (by decide) _ 53 rfl rfl
      have q10 := hD 10 (by decide) _ 54 rfl rfl
      have q11 := hD 11 (by decide) _ 55 rfl rfl
      have q12 := hD 12 (by decide) _ 56 rfl rfl
      have hact := act_puts (a := a) [(44, .pointer (some ⟨p, 0, none⟩)), (45, .pointer (some ⟨p, 0, none⟩)), (46, .pointer (some ⟨p2, 0, none⟩)), (47, .pointer (some ⟨p3, 0, none⟩)), (48, .bool true), (49, .bool false), (50, .bool false), (51, .pointer (some ⟨p, 0, none⟩)), (52, .int .i64 (N : Int)), (53, .pointer (some ⟨w2.heap.size, 0, none⟩)), (54, .int .i64 (N : Int)), (55, .bool false), (56, .bool false)] _ hM.tmps hM.defers (by
        intro s v hm
        simp only [List.mem_cons, Prod.mk.injEq, List.not_mem_nil, or_false] at hm
        rcases hm with ⟨rfl, rfl⟩ | ⟨rfl, rfl⟩ | ⟨rfl, rfl⟩ | ⟨rfl, rfl⟩ | ⟨rfl, rfl⟩ | ⟨rfl, rfl⟩ | ⟨rfl, rfl⟩ | ⟨rfl, rfl⟩ | ⟨rfl, rfl⟩ | ⟨rfl, rfl⟩ | ⟨rfl, rfl⟩ | ⟨rfl, rfl⟩ | ⟨rfl, rfl⟩
        · exact ⟨(by show 44 < 270; decide), q0⟩
        · exact ⟨(by show 45 < 270; decide), q1⟩
        · exact ⟨(by show 46 < 270; decide), q2⟩
        · exact ⟨(by show 47 < 270; decide), q3⟩
        · exact ⟨(by show 48 < 270; decide), q4⟩
        · exact ⟨(by show 49 < 270; decide), q5⟩
        · exact ⟨(by show 50 < 270; decide), q6⟩
        · exact ⟨(by show 51 < 270; decide), q7⟩
        · exact ⟨(by show 52 < 270; decide), q8⟩
        · exact ⟨(by show 53 < 270; decide), q9⟩
        · exact ⟨(by show 54 < 270; decide), q10⟩
        · exact ⟨(by show 55 < 270; decide), q11⟩
        · exact ⟨(by show 56 < 270; decide), q12⟩) (fun s hs => hM.other s (by exact hs))
      rw [hact]
      have hBX := hM.below
      clear hact hD hM hU q0 q1 q2 q3 q4 q5 q6 q7 q8 q9 q10 q11 q12
      simp only [List.foldl, Act.put, List.setIfInBounds_toArray, List.set_cons_succ, List.set_cons_zero, List.drop_succ_cons, List.drop_zero]
      have GY : Hid (∀ V : World, Below wx.heap.size wx V → GmIs V p S N L ∧ (V.cell? ⟨w2.heap.size, 0, none⟩ = some (.int .i64 (N : Int)) ∧ V.cell? ⟨w2.heap.size, 1, none⟩ = some (.slice A L.length c)) ∧ Below w.heap.size w V) := fun V hb => GX.out V (hBX.trans (hb.mono hBX.size))
      have OU := Lib_hid (fun (V : World) (hV : Below wx.heap.size wx V) (n : Int) => pout_any (GY.out V hV).1 HN6.out.1 (Nat.le_trans HN6.out.2.1 (by decide)) n)
      have IU := Lib_hid (fun (V : World) (hV : Below wx.heap.size wx V) (n : Int) => pin_any (GY.out V hV).1 HN6.out.1 (Nat.le_trans HN6.out.2.1 (by decide)) n)
      have C0 : Hid (cntF (fun e => e.1) L 0 = 0 ∧ cntF (fun e => e.2.1) L 0 = 0) := ⟨cntF_zero _ fun e he => (HEO.out e he).2.1, cntF_zero _ fun e he => (HEO.out e he).2.2.2.1⟩
      have CN : Hid (cntF (fun e => e.1) L N = L.length ∧ cntF (fun e => e.2.1) L N = L.length) := ⟨cntF_all _ fun e he => (HEO.out e he).2.2.1, cntF_all _ fun e he => (HEO.out e he).2.2.2.2⟩
      have CS : Hid (∀ k : Int, (cntF (fun e => e.1) L (k + 1) = cntF (fun e => e.1) L k + (outE L k).length ∧ cntF (fun e => e.2.1) L (k + 1) = cntF (fun e => e.2.1) L k + (inE L k).length) ∧ cntF (fun e => e.1) L k ≤ 1000000 ∧ cntF (fun e => e.2.1) L k ≤ 1000000) := fun k => ⟨⟨cntF_succ _ k L, cntF_succ _ k L⟩, Nat.le_trans (cntF_le _ _ _) HN6.out.2.1, Nat.le_trans (cntF_le _ _ _) HN6.out.2.1⟩
      clear hBX
      go_wp2_with fail
      go_loopw [11, 12, 13] (fun x y i wr => ∃ k : Nat, x = .int .i64 (cntF (fun e => e.1) L k) ∧ y = .int .i64 (cntF (fun e => e.2.1) L k) ∧ i = .int .i64 k ∧ k ≤ N ∧ Hid (Below wx.heap.size wx wr)) (fun _ _ i _ => N - (intOf i).toNat)
      case atStart => exact ⟨0, by rw [show ((0 : Nat) : Int) = 0 from rfl, C0.out.1]; rfl, by rw [show ((0 : Nat) : Int) = 0 from rfl, C0.out.2]; rfl, rfl, Nat.zero_le _, Below.refl _ _⟩
      case round =>
        obtain ⟨k, rfl, rfl, rfl, hk, hbw⟩ := hrel
        obtain ⟨q0, q1⟩ := (GY.out _ hbw.out).2.1
        by_cases hlt : k < N
        · have dk : decide ((k : Int) < (N : Int)) = true := decide_eq_true (by omega)
          obtain ⟨W1, rfl⟩ : ∃ W1, W1 = wr := ⟨wr, rfl⟩
          have O1 := OU.out W1 hbw.out (k : Int)
          have HS := Lib_hid (CS.out (k : Int))
          have hN5 := HN6.out.1
          obtain ⟨hc1, hc2⟩ := HS.out.2
          generalize hx1 : cntF (fun e => e.1) L (k : Int) = c1 at *
          generalize hx2 : cntF (fun e => e.2.1) L (k : Int) = c2 at *
          have HCC := Lib_hid (And.intro hx1 hx2)
          have HL1 : Hid ((outE L (k : Int)).length ≤ 1000000 ∧ (inE L (k : Int)).length ≤ 1000000) := ⟨Nat.le_trans (List.length_filter_le _ _) HN6.out.2.1, Nat.le_trans (List.length_filter_le _ _) HN6.out.2.1⟩
          clear hx1 hx2
          go_wp2_with fail
          refine O1.mono ?_
          rintro r w5 ⟨A5, c5, rfl, ho5, hb5⟩
          have hbw5 := hbw.out.trans (hb5.mono hbw.out.size)
          have I1 := IU.out w5 hbw5 (k : Int)
          have HB5 := Lib_hid (And.intro ho5 (And.intro hb5 hbw5))
          clear O1 ho5 hb5 hbw5 q0 q1
          go_wp2_with fail
          refine I1.mono ?_
          rintro r w6 ⟨A6, c6, rfl, ho6, hb6⟩
          have hbw6 := HB5.out.2.2.trans (hb6.mono HB5.out.2.2.size)
          have HR5 := Lib_hid (fun (V : World) (hV : Below w6.heap.size w6 V) (i : Nat) (hi : i < (outE L (k : Int)).length) => e_at ((Rd.own HB5.out.1).below (hb6.trans (hV.mono hb6.size))) hi)
          have HR6 := Lib_hid (fun (V : World) (hV : Below w6.heap.size w6 V) (i : Nat) (hi : i < (inE L (k : Int)).length) => e_at ((Rd.own ho6).below hV) hi)
          have HB6 := Lib_hid hbw6
          obtain ⟨hl1, hl2⟩ := HL1.out
          have SO : Hid (Srt (outE L (k : Int)) ∧ ∀ i, i < (outE L (k : Int)).length → (at3 (outE L (k : Int)) i).1 = k) := ⟨HN6.out.2.2.2.filter _, fun i hi => outE_at hi⟩
          have SI : Hid (Srt (inE L (k : Int)) ∧ ∀ i, i < (inE L (k : Int)).length → (at3 (inE L (k : Int)) i).2.1 = k) := ⟨HN6.out.2.2.2.filter _, fun i hi => inE_at hi⟩
          clear I1 ho6 hb6 hbw6 HB5 hbw
          generalize outE L (k : Int) = lo at *
          generalize inE L (k : Int) = li at *
          go_wp2_with fail
          go_loopw [16] (fun i wr => ∃ j : Nat, i = .int .i64 j ∧ j ≤ lo.length ∧ Hid (Below w6.heap.size w6 wr)) (fun i _ => lo.length - (intOf i).toNat)
          case atStart => exact ⟨0, rfl, Nat.zero_le _, Below.refl _ _⟩
          case round =>
            obtain ⟨j, rfl, hj, hbj⟩ := hrel
            by_cases hlj : j < lo.length
            · have dj : decide ((j : Int) < (lo.length : Int)) = true := decide_eq_true (by omega)
              obtain ⟨bk, off, hA, _, e0, e1, e2⟩ := HR5.out _ hbj.out j hlj
              have hky := SO.out.2 j hlj
              have hji : (j : Int) < (lo.length : Int) := by omega
              have hj0 : (0 : Int) ≤ (j : Int) := by omega
              have hll : lo.length ≤ 1000000 := by omega
              have dn : ((k : Int) != (k : Int)) = false := by simp
              subst hA
              obtain ⟨W4, rfl⟩ : ∃ W4, W4 = wr := ⟨wr, rfl⟩
              have HBJ := Lib_hid (fun (V : World) (hV : Below W4.heap.size W4 V) => hbj.out.trans (hV.mono hbj.out.size))
              rw [hky] at e0
              by_cases h0 : j = 0
              · have dg : decide ((0 : Int) < (j : Int)) = false := decide_eq_false (by omega)
                have dg' : decide (0 < j) = false := decide_eq_false (by omega)
                have hj1 := Lib_hid h0
                clear hky h0
                go_upto_region 16 with (fail)
                go_quiet (fail)
                go_wp2
                go_roundw
                case rel => exact ⟨j + 1, by go_num, by omega, HBJ.out _ (below_drew_ (Below.refl _ _))⟩
                case measure => simp [intOf]; omega
              · obtain ⟨i, hij⟩ : ∃ i : Nat, (i : Int) = (j : Int) - 1 := ⟨j - 1, by omega⟩
                have CM : cmpE (at3 lo i) (at3 lo j) = -1 := by
                  have h1 := srt_step SO.out.1 (i := i) (by omega)
                  rwa [show i + 1 = j by omega] at h1
                rw [show at3 lo i = ((at3 lo i).1, (at3 lo i).2.1, (at3 lo i).2.2) from rfl, show at3 lo j = ((at3 lo j).1, (at3 lo j).2.1, (at3 lo j).2.2) from rfl, hky] at CM
                have KC : Hid (∀ V : World, Below W4.heap.size W4 V → (V.cell? ⟨bk, off + i * 3, none⟩ = some (.int .i64 (at3 lo i).1) ∧ V.cell? ⟨bk, off + i * 3 + 1, none⟩ = some (.int .i64 (at3 lo i).2.1) ∧ V.cell? ⟨bk, off + i * 3 + 2, none⟩ = some (.int .i64 (at3 lo i).2.2)) ∧ V.cell? ⟨bk, off + j * 3, none⟩ = some (.int .i64 (at3 lo j).1) ∧ V.cell? ⟨bk, off + j * 3 + 1, none⟩ = some (.int .i64 (at3 lo j).2.1) ∧ V.cell? ⟨bk, off + j * 3 + 2, none⟩ = some (.int .i64 (at3 lo j).2.2)) := fun V hb => by
                  obtain ⟨b1, o1, h1, _, m0, m1, m2⟩ := HR5.out V (hbj.out.trans (hb.mono hbj.out.size)) i (by omega)
                  obtain ⟨b2, o2, h2, _, r0, r1, r2⟩ := HR5.out V (hbj.out.trans (hb.mono hbj.out.size)) j hlj
                  simp only [Option.some.injEq, Addr.mk.injEq, and_true] at h1 h2
                  obtain ⟨rfl, rfl⟩ := h1
                  obtain ⟨rfl, rfl⟩ := h2
                  exact ⟨⟨m0, m1, m2⟩, r0, r1, r2⟩
                rw [hky] at KC
                clear e0 e1 e2 hky
                generalize (at3 lo i).1 = u1 at *
                generalize (at3 lo i).2.1 = u2 at *
                generalize (at3 lo i).2.2 = u3 at *
                generalize (at3 lo j).2.1 = v2 at *
                generalize (at3 lo j).2.2 = v3 at *
                have PC : Hid (∀ V : World, Calls Try.prog 28 #[.agg #[.int .i64 u1, .int .i64 u2, .int .i64 u3], .agg #[.int .i64 (k : Int), .int .i64 v2, .int .i64 v3]] V fun e w' => e = .returned (.int .i64 (-1)) ∧ Below V.heap.size V w') := fun V => (pcmp_any (u1, u2, u3) ((k : Int), v2, v3) V).mono fun e w' hh => ⟨by rw [hh.1, CM], hh.2.below⟩
                clear CM
                have dg : decide ((0 : Int) < (j : Int)) = true := decide_eq_true (by omega)
                have dg' : decide (0 < j) = true := decide_eq_true (by omega)
                have hj1 := Lib_hid h0
                clear h0
                have hi0 : (0 : Int) ≤ (i : Int) := by omega
                have hii : (i : Int) < (lo.length : Int) := by omega
                have hw : IntKind.i64.wrap ((j : Int) - 1) = (i : Int) := by rw [IntWalk.i64_in _ (by omega)]; omega
                have HIJ := Lib_hid hij
                clear hij
                go_upto_region 16 with (fail)
                go_region_held3 (fun V => (V.cell? ⟨bk, off + i * 3, none⟩ = some (.int .i64 u1) ∧ V.cell? ⟨bk, off + i * 3 + 1, none⟩ = some (.int .i64 u2) ∧ V.cell? ⟨bk, off + i * 3 + 2, none⟩ = some (.int .i64 u3)) ∧ V.cell? ⟨bk, off + j * 3, none⟩ = some (.int .i64 (k : Int)) ∧ V.cell? ⟨bk, off + j * 3 + 1, none⟩ = some (.int .i64 v2) ∧ V.cell? ⟨bk, off + j * 3 + 2, none⟩ = some (.int .i64 v3))
                  (first | exact KC.out _ (below_drew_ (Below.refl _ _)) | exact KC.out _ (below_undrew hbc))
                  (first | (go_at_call 28; ((with_reducible refine (PC.out _).mono ?_); rintro r V ⟨rfl, hbc⟩)))
                have hb9 := Lib_hid (HBJ.out V (below_undrew hbc))
                clear hbc KC PC
                go_wp2
                go_roundw
                case rel => exact ⟨j + 1, by go_num, by omega, hb9⟩
                case measure => simp [intOf]; omega
            · obtain rfl : j = lo.length := by omega
              have HBJ2 : Hid (Below w6.heap.size w6 wr) := hbj
              obtain ⟨W7, rfl⟩ : ∃ W7, W7 = wr := ⟨wr, rfl⟩
              clear HR5 SO hlj hj hbj
              go_wp2_with fail
              go_loopw [17] (fun i wr => ∃ j : Nat, i = .int .i64 j ∧ j ≤ li.length ∧ Hid (Below w6.heap.size w6 wr)) (fun i _ => li.length - (intOf i).toNat)
              case atStart => exact ⟨0, rfl, Nat.zero_le _, HBJ2⟩
              case round =>
                obtain ⟨j, rfl, hj, hbj⟩ := hrel
                by_cases hlj : j < li.length
                · have dj : decide ((j : Int) < (li.length : Int)) = true := decide_eq_true (by omega)
                  obtain ⟨bk, off, hA, _, e0, e1, e2⟩ := HR6.out _ hbj.out j hlj
                  have hky := SI.out.2 j hlj
                  have hji : (j : Int) < (li.length : Int) := by omega
                  have hj0 : (0 : Int) ≤ (j : Int) := by omega
                  have hll : li.length ≤ 1000000 := by omega
                  have dn : ((k : Int) != (k : Int)) = false := by simp
                  subst hA
                  obtain ⟨W4, rfl⟩ : ∃ W4, W4 = wr := ⟨wr, rfl⟩
                  have HBJ := Lib_hid (fun (V : World) (hV : Below W4.heap.size W4 V) => hbj.out.trans (hV.mono hbj.out.size))
                  rw [hky] at e1
                  by_cases h0 : j = 0
                  · have dg : decide ((0 : Int) < (j : Int)) = false := decide_eq_false (by omega)
                    have dg' : decide (0 < j) = false := decide_eq_false (by omega)
                    have hj1 := Lib_hid h0
                    clear hky h0
                    go_upto_region 21 with (fail)
                    go_quiet (fail)
                    go_wp2
                    go_roundw
                    case rel => exact ⟨j + 1, by go_num, by omega, HBJ.out _ (below_drew_ (Below.refl _ _))⟩
                    case measure => simp [intOf]; omega
                  · obtain ⟨i, hij⟩ : ∃ i : Nat, (i : Int) = (j : Int) - 1 := ⟨j - 1, by omega⟩
                    have CM : cmpE (at3 li i) (at3 li j) = -1 := by
                      have h1 := srt_step SI.out.1 (i := i) (by omega)
                      rwa [show i + 1 = j by omega] at h1
                    rw [show at3 li i = ((at3 li i).1, (at3 li i).2.1, (at3 li i).2.2) from rfl, show at3 li j = ((at3 li j).1, (at3 li j).2.1, (at3 li j).2.2) from rfl, hky] at CM
                    have KC : Hid (∀ V : World, Below W4.heap.size W4 V → (V.cell? ⟨bk, off + i * 3, none⟩ = some (.int .i64 (at3 li i).1) ∧ V.cell? ⟨bk, off + i * 3 + 1, none⟩ = some (.int .i64 (at3 li i).2.1) ∧ V.cell? ⟨bk, off + i * 3 + 2, none⟩ = some (.int .i64 (at3 li i).2.2)) ∧ V.cell? ⟨bk, off + j * 3, none⟩ = some (.int .i64 (at3 li j).1) ∧ V.cell? ⟨bk, off + j * 3 + 1, none⟩ = some (.int .i64 (at3 li j).2.1) ∧ V.cell? ⟨bk, off + j * 3 + 2, none⟩ = some (.int .i64 (at3 li j).2.2)) := fun V hb => by
                      obtain ⟨b1, o1, h1, _, m0, m1, m2⟩ := HR6.out V (hbj.out.trans (hb.mono hbj.out.size)) i (by omega)
                      obtain ⟨b2, o2, h2, _, r0, r1, r2⟩ := HR6.out V (hbj.out.trans (hb.mono hbj.out.size)) j hlj
                      simp only [Option.some.injEq, Addr.mk.injEq, and_true] at h1 h2
                      obtain ⟨rfl, rfl⟩ := h1
                      obtain ⟨rfl, rfl⟩ := h2
                      exact ⟨⟨m0, m1, m2⟩, r0, r1, r2⟩
                    rw [hky] at KC
                    clear e0 e1 e2 hky
                    generalize (at3 li i).1 = u1 at *
                    generalize (at3 li i).2.1 = u2 at *
                    generalize (at3 li i).2.2 = u3 at *
                    generalize (at3 li j).1 = v1 at *
                    generalize (at3 li j).2.2 = v3 at *
                    have PC : Hid (∀ V : World, Calls Try.prog 28 #[.agg #[.int .i64 u1, .int .i64 u2, .int .i64 u3], .agg #[.int .i64 v1, .int .i64 (k : Int), .int .i64 v3]] V fun e w' => e = .returned (.int .i64 (-1)) ∧ Below V.heap.size V w') := fun V => (pcmp_any (u1, u2, u3) (v1, (k : Int), v3) V).mono fun e w' hh => ⟨by rw [hh.1, CM], hh.2.below⟩
                    clear CM
                    have dg : decide ((0 : Int) < (j : Int)) = true := decide_eq_true (by omega)
                    have dg' : decide (0 < j) = true := decide_eq_true (by omega)
                    have hj1 := Lib_hid h0
                    clear h0
                    have hi0 : (0 : Int) ≤ (i : Int) := by omega
                    have hii : (i : Int) < (li.length : Int) := by omega
                    have hw : IntKind.i64.wrap ((j : Int) - 1) = (i : Int) := by rw [IntWalk.i64_in _ (by omega)]; omega
                    have HIJ := Lib_hid hij
                    clear hij
                    go_upto_region 21 with (fail)
                    go_region_held3 (fun V => (V.cell? ⟨bk, off + i * 3, none⟩ = some (.int .i64 u1) ∧ V.cell? ⟨bk, off + i * 3 + 1, none⟩ = some (.int .i64 u2) ∧ V.cell? ⟨bk, off + i * 3 + 2, none⟩ = some (.int .i64 u3)) ∧ V.cell? ⟨bk, off + j * 3, none⟩ = some (.int .i64 v1) ∧ V.cell? ⟨bk, off + j * 3 + 1, none⟩ = some (.int .i64 (k : Int)) ∧ V.cell? ⟨bk, off + j * 3 + 2, none⟩ = some (.int .i64 v3))
                      (first | exact KC.out _ (below_drew_ (Below.refl _ _)) | exact KC.out _ (below_undrew hbc))
                      (first | (go_at_call 28; ((with_reducible refine (PC.out _).mono ?_); rintro r V ⟨rfl, hbc⟩)))
                    have hb9 := Lib_hid (HBJ.out V (below_undrew hbc))
                    clear hbc KC PC
                    go_wp2
                    go_roundw
                    case rel => exact ⟨j + 1, by go_num, by omega, hb9⟩
                    case measure => simp [intOf]; omega
                · obtain rfl : j = li.length := by omega
                  go_wp2
                  go_roundw
                  case rel => exact ⟨k + 1, by rw [show ((k + 1 : Nat) : Int) = (k : Int) + 1 by omega, HS.out.1.1]; go_num, by rw [show ((k + 1 : Nat) : Int) = (k : Int) + 1 by omega, HS.out.1.2]; go_num, by go_num, by omega, HB6.out.trans (hbj.out.mono HB6.out.size)⟩
                  case measure => simp [intOf]; omega
        · obtain rfl : N = k := by omega
          rw [CN.out.1, CN.out.2]
          obtain ⟨W8, rfl⟩ : ∃ W8, W8 = wr := ⟨wr, rfl⟩
          have MA := Lib_hid (pmany_any (GY.out W8 hbw.out).1)
          have ED := Lib_hid (pedges_any (GY.out W8 hbw.out).1 HN6.out.1 HN6.out.2.1)
          have dm : ((L.length : Int) != (L.length : Int)) = false := by simp
          go_upto_region 26 with (go_at_call 33; ((with_reducible refine MA.out.mono ?_); rintro r ws ⟨rfl, rfl⟩))
          go_upto_region 27 with (go_at_call 34; refine ED.out.mono ?_; rintro r wE ⟨Aa, ca, rfl, hoa, hbE⟩)
          have AL : Hid (∀ V : World, Below wE.heap.size wE V → ∀ i, i < L.length → ∃ b off : Nat, Aa = some ⟨b, off, none⟩ ∧ b < wE.heap.size ∧ V.cell? ⟨b, off + i * 3, none⟩ = some (.int .i64 (at3 L i).1) ∧ V.cell? ⟨b, off + i * 3 + 1, none⟩ = some (.int .i64 (at3 L i).2.1) ∧ V.cell? ⟨b, off + i * 3 + 2, none⟩ = some (.int .i64 (at3 L i).2.2)) := fun V hV i hi => e_at ((Rd.own hoa).below hV) hi
          have GE : Hid (∀ V : World, Below wE.heap.size wE V → GmIs V p S N L ∧ (V.cell? ⟨w2.heap.size, 0, none⟩ = some (.int .i64 (N : Int)) ∧ V.cell? ⟨w2.heap.size, 1, none⟩ = some (.slice A L.length c)) ∧ Below w.heap.size w V) := fun V hV => GY.out V ((hbw.out.trans (hbE.mono hbw.out.size)).trans (hV.mono (Nat.le_trans hbw.out.size hbE.size)))
          have HZ : Hid (∀ V : World, Below wE.heap.size wE V → ∀ i, i < no → ∃ ad, Ao = some ad ∧ ad.block < B' ∧ V.cell? (ad.add i) = some (.int .i64 (atZ os i))) := fun V hV i hi => z_at (HNS.out V (GE.out V hV).2.2) hi
          have hn40 : L.length ≤ 40 := by have := HG.out.2.2.2; omega
          obtain ⟨i0, hi, hz0, hz1, hz2⟩ := info_parts Try.infoE
          clear MA ED dm hbw hbE hoa OU IU C0 CN CS GY q0 q1 HNS hk hlt GX HX3 HG
          go_upto_block 6 with (fail)
          go_cut [18, 20] from 149 to 172 (fun t _ wr => ∃ (m4 ct4 : Nat) (At4 : Option Addr) (T4 : List Ed), t = .slice At4 m4 ct4 ∧ Hid (m4 = T4.length ∧ m4 ≤ 40 ∧ ∀ e ∈ T4, e ∈ L) ∧ Hid (wr.ownsRow wE.heap.size 39 3 (.slice At4 m4 ct4) m4 (ec T4) ∧ Below wE.heap.size wE wr))
          case first =>
            go_wp2_with fail
            go_loopw [18, 20] (fun t i wr => ∃ (j m ct : Nat) (At : Option Addr) (T : List Ed), t = .slice At m ct ∧ i = .int .i64 j ∧ j ≤ no ∧ m ≤ j ∧ Hid (m = T.length ∧ ∀ e ∈ T, e ∈ L) ∧ Hid (wr.ownsRow wE.heap.size 39 3 (.slice At m ct) m (ec T) ∧ Below wE.heap.size wE wr)) (fun _ i _ => no - (intOf i).toNat)
            case atStart => exact ⟨0, 0, 0, none, [], rfl, rfl, Nat.zero_le _, Nat.le_refl _, ⟨rfl, fun e he => by cases he⟩, own_zero _ _ _ _, Below.refl _ _⟩
            case round =>
              obtain ⟨j, m, ct, At, T, rfl, rfl, hj, hmj, hT, hs⟩ := hrel
              by_cases hlj : j < no
              · have dj : decide ((j : Int) < (no : Int)) = true := decide_eq_true (by omega)
                by_cases hpos : 0 < L.length
                · have dp : decide ((0 : Int) < (L.length : Int)) = true := decide_eq_true (by omega)
                  obtain ⟨ad, rfl, _, z0⟩ := HZ.out _ hs.out.2 j hlj
                  have PK := Lib_hid (fun V : World => gpick_any (atZ os j) L.length V hpos (by omega))
                  have hjo : (j : Int) < (no : Int) := by omega
                  have hj0 : (0 : Int) ≤ (j : Int) := by omega
                  generalize atZ os j = oj at *
                  go_wp2_with fail
                  refine (PK.out _).mono ?_
                  rintro r ws ⟨q, rfl, hq, rfl⟩
                  obtain ⟨W1, rfl⟩ : ∃ W1, W1 = wr := ⟨wr, rfl⟩
                  obtain ⟨bk, off, rfl, _, e0, e1, e2⟩ := AL.out _ hs.out.2 q hq
                  have hqi : (q : Int) < (L.length : Int) := by omega
                  have hq0 : (0 : Int) ≤ (q : Int) := by omega
                  have HQL : Hid (at3 L q ∈ L ∧ at3 L q = ((at3 L q).1, (at3 L q).2.1, (at3 L q).2.2)) := ⟨at3_mem hq, rfl⟩
                  clear PK
                  generalize hz1' : (at3 L q).1 = a1 at *
                  generalize hz2' : (at3 L q).2.1 = a2 at *
                  generalize hz3' : (at3 L q).2.2 = a3 at *
                  clear hz1' hz2' hz3'
                  have bA := below_new W1 (.cells #[.int .i64 a1, .int .i64 a2, .int .i64 a3] 39)
                  have HO2 := Lib_hid (And.intro (own_below hs.out.1 bA (own_lt hs.out.1)) (And.intro (ec_new W1 (a1, a2, a3) 39) (And.intro (hs.out.2.trans (bA.mono hs.out.2.size)) (Nat.le_trans hs.out.2.size bA.size))))
                  have hm1 : m + 1 ≤ maxLen := by unfold maxLen; omega
                  have hmb : (m + 1) * 24 ≤ 140737488355328 := by omega
                  clear bA
                  go_wp2_with (at_builtin; (refine wpList_app rfl _ _ 34 rfl wE.heap.size 39 i0 (.agg #[.int .i64 0, .int .i64 0, .int .i64 0]) 3 24 Try.underlying34 hi hz0 hz1 hz2 rfl (by decide) _ m _ rfl HO2.out.1 (W1.heap.size + 1) (some ⟨W1.heap.size, 0, none⟩) 1 1 (ec [(a1, a2, a3)]) rfl HO2.out.2.1 (ec_one _) hm1 hmb HO2.out.2.2.2 ?_); intro v' w6 hown6 hst; obtain ⟨Aw6, cw6, rfl⟩ := own_form' hown6)
                  rw [← ec_append] at hown6
                  have hbw6 := Lib_hid (And.intro hown6 (HO2.out.2.2.1.grown hst.grow HO2.out.2.2.2 (own_ge HO2.out.1)))
                  have HT2 : Hid (m + 1 = (T ++ [(a1, a2, a3)]).length ∧ ∀ e ∈ T ++ [(a1, a2, a3)], e ∈ L) := ⟨by rw [List.length_append, ← hT.out.1]; rfl, fun e he => by
                    rcases List.mem_append.1 he with he | he
                    · exact hT.out.2 e he
                    · rw [List.mem_singleton] at he
                      rw [he, ← HQL.out.2]
                      exact HQL.out.1⟩
                  clear hown6 hst HO2 e0 e1 e2
                  go_wp2
                  go_roundw
                  case rel => exact ⟨j + 1, m + 1, cw6, Aw6, T ++ [(a1, a2, a3)], rfl, by go_num, by omega, by omega, HT2, hbw6⟩
                  case measure => simp [intOf]; omega
                · have dp : decide ((0 : Int) < (L.length : Int)) = false := decide_eq_false (by omega)
                  go_wp2_with fail
                  go_meet
                  exact ⟨m, ct, At, T, rfl, ⟨hT.out.1, by omega, hT.out.2⟩, hs⟩
              · obtain rfl : no = j := by omega
                go_wp2_with fail
                go_meet
                exact ⟨m, ct, At, T, rfl, ⟨hT.out.1, by omega, hT.out.2⟩, hs⟩
          case rest =>
            obtain ⟨m4, ct4, At4, T4, rfl, HT4, HS4⟩ := hcut
            rename World => w5
            clear HZ
            go_wp2_with fail
            go_loopw [18, 21] (fun t i wr => ∃ (q m ct : Nat) (z : Int) (At : Option Addr) (T : List Ed), t = .slice At m ct ∧ i = .int .i64 z ∧ z = (q : Int) - 1 ∧ q ≤ L.length ∧ m + q ≤ 40 + L.length ∧ Hid (m = T.length ∧ (∀ e ∈ T, e ∈ L) ∧ ∀ e ∈ L.drop q, e ∈ T) ∧ Hid (wr.ownsRow wE.heap.size 39 3 (.slice At m ct) m (ec T) ∧ Below wE.heap.size wE wr)) (fun _ i _ => (intOf i + 1).toNat)
            case atStart => exact ⟨L.length, m4, ct4, _, At4, T4, rfl, rfl, by omega, Nat.le_refl _, by have := HT4.out.2.1; omega, ⟨HT4.out.1, HT4.out.2.2, fun e he => by rw [List.drop_length] at he; cases he⟩, HS4⟩
            case round =>
              obtain ⟨q, m, ct, z, At, T, rfl, rfl, hz, hq, hmq, hT, hs⟩ := hrel
              by_cases hq0 : 0 < q
              · obtain ⟨j, hj⟩ : ∃ j : Nat, q = j + 1 := ⟨q - 1, by omega⟩
                obtain rfl : z = (j : Int) := by omega
                clear hz
                subst hj
                have dj : decide ((0 : Int) ≤ (j : Int)) = true := decide_eq_true (by omega)
                obtain ⟨W1, rfl⟩ : ∃ W1, W1 = wr := ⟨wr, rfl⟩
                obtain ⟨bk, off, hAa, _, e0, e1, e2⟩ := AL.out _ hs.out.2 j (by omega)
                subst hAa
                have hqi : (j : Int) < (L.length : Int) := by omega
                have hj0 : (0 : Int) ≤ (j : Int) := by omega
                have HQL : Hid (at3 L j ∈ L ∧ at3 L j = ((at3 L j).1, (at3 L j).2.1, (at3 L j).2.2) ∧ L.drop j = at3 L j :: L.drop (j + 1)) := ⟨at3_mem (by omega), rfl, by rw [at3_lt (by omega)]; exact List.drop_eq_getElem_cons (by omega)⟩
                generalize hz1' : (at3 L j).1 = a1 at *
                generalize hz2' : (at3 L j).2.1 = a2 at *
                generalize hz3' : (at3 L j).2.2 = a3 at *
                clear hz1' hz2' hz3'
                have bA := below_new W1 (.cells #[.int .i64 a1, .int .i64 a2, .int .i64 a3] 39)
                have HO2 := Lib_hid (And.intro (own_below hs.out.1 bA (own_lt hs.out.1)) (And.intro (ec_new W1 (a1, a2, a3) 39) (And.intro (hs.out.2.trans (bA.mono hs.out.2.size)) (Nat.le_trans hs.out.2.size bA.size))))
                have hm1 : m + 1 ≤ maxLen := by unfold maxLen; omega
                have hmb : (m + 1) * 24 ≤ 140737488355328 := by omega
                clear bA
                go_wp2_with (at_builtin; (refine wpList_app rfl _ _ 34 rfl wE.heap.size 39 i0 (.agg #[.int .i64 0, .int .i64 0, .int .i64 0]) 3 24 Try.underlying34 hi hz0 hz1 hz2 rfl (by decide) _ m _ rfl HO2.out.1 (W1.heap.size + 1) (some ⟨W1.heap.size, 0, none⟩) 1 1 (ec [(a1, a2, a3)]) rfl HO2.out.2.1 (ec_one _) hm1 hmb HO2.out.2.2.2 ?_); intro v' w6 hown6 hst; obtain ⟨Aw6, cw6, rfl⟩ := own_form' hown6)
                rw [← ec_append] at hown6
                have hbw6 := Lib_hid (And.intro hown6 (HO2.out.2.2.1.grown hst.grow HO2.out.2.2.2 (own_ge HO2.out.1)))
                have HT2 : Hid (m + 1 = (T ++ [(a1, a2, a3)]).length ∧ (∀ e ∈ T ++ [(a1, a2, a3)], e ∈ L) ∧ ∀ e ∈ L.drop j, e ∈ T ++ [(a1, a2, a3)]) := ⟨by rw [List.length_append, ← hT.out.1]; rfl, fun e he => by
                  rcases List.mem_append.1 he with he | he
                  · exact hT.out.2.1 e he
                  · rw [List.mem_singleton] at he
                    rw [he, ← HQL.out.2.1]
                    exact HQL.out.1, fun e he => by
                  rw [HQL.out.2.2] at he
                  rcases List.mem_cons.1 he with he | he
                  · rw [he, HQL.out.2.1]; simp
                  · exact List.mem_append.2 (.inl (hT.out.2.2 e he))⟩
                clear hown6 hst HO2 e0 e1 e2
                go_wp2
                go_roundw
                case rel => exact ⟨j, m + 1, cw6, _, Aw6, T ++ [(a1, a2, a3)], rfl, rfl, by omega, by omega, by omega, HT2, hbw6⟩
                case measure => (simp [intOf]; try omega)
              · obtain rfl : q = 0 := by omega
                obtain rfl : z = -1 := by omega
                have HT5 : Hid (addEs [] T = L ∧ (∀ e ∈ T, EdOk e) ∧ (∀ e ∈ T, okE N e = true) ∧ m = T.length ∧ m ≤ 1000) := ⟨addEs_same HN6.out.2.2.2 fun e => ⟨hT.out.2.1 e, fun he => hT.out.2.2 e (by simpa using he)⟩, fun e he => (HEO.out e (hT.out.2.1 e he)).1, fun e he => okE_iff.2 (HEO.out e (hT.out.2.1 e he)).2, hT.out.1, by omega⟩
                clear hz hq hmq hT hq0
                obtain ⟨wT, rfl⟩ : ∃ wT, wT = wr := ⟨wr, rfl⟩
                obtain ⟨q0, q1⟩ := (GE.out _ hs.out.2).2.1
                have NW := Lib_hid (pnew_any (N : Int) wT)
                have hmz : m ≤ 1000 := HT5.out.2.2.2.2
                go_upto_region 36 with (go_at_call 10; refine NW.out.mono ?_; rintro r wH (⟨hbad, -⟩ | ⟨-, ph, Sh, rfl, hGh, hbH, hSh⟩); (exact absurd hbad (by have := HN6.out.1; omega)))
                rw [Int.toNat_natCast] at hGh
                have AD := Lib_hid (gadd_any (c := ct) hGh ((Rd.own hs.out.1).below hbH) hbH.size (fun ad hA hk => by
                  have h1 := hSh _ hk
                  have h2 := own_lt hs.out.1 ad.block (by rw [hA]; rfl)
                  omega) HT5.out.2.1 HN6.out.1 (by omega) (by decide))
                have HH := Lib_hid (And.intro hbH hSh)
                clear hGh hbH hSh NW q0 q1
                go_upto_region 37 with (go_at_call 16; refine AD.out.mono ?_; rintro r wA (⟨-, rfl, S1, hG1, t1, hs1⟩ | ⟨hno, -⟩); rotate_left; (exact absurd HT5.out.2.2.1 hno))
                rw [HT5.out.1] at hG1
                have HA : Hid (GmIs wA ph S1 N L ∧ Below wT.heap.size wT wA ∧ ∀ k, S1 k → wT.heap.size ≤ k) := ⟨hG1, HH.out.1.trans (t1.below HH.out.1.size HH.out.2), fun k hk => (hs1 k hk).elim (HH.out.2 k) (fun h => Nat.le_trans HH.out.1.size h)⟩
                have hbA := hs.out.2.trans (HA.out.2.1.mono hs.out.2.size)
                have SA := Lib_hid (psame_any (GE.out _ hbA).1 HA.out.1 HN6.out.1 HN6.out.1 HN6.out.2.1 HN6.out.2.1)
                clear hG1 t1 hs1 AD HH
                go_upto_region 39 with (go_at_call 22; refine SA.out.mono ?_; rintro r wS ⟨hr, hbS⟩; (obtain rfl : r = .returned (.bool true) := by rw [hr]; simp))
                have hbS2 := Lib_hid (hbA.trans (hbS.mono hbA.size))
                have hAS := Lib_hid hbS
                have HET : Hid (wE.heap.size ≤ wT.heap.size) := hs.out.2.size
                clear SA hbA hbS hs hmz
                by_cases hL0 : L.length = 0
                · have dz : ((L.length : Int) == 0) = true := beq_iff_eq.2 (by omega)
                  go_wp2_with fail
                  refine (HW.out _).mono ?_
                  rintro r w9 ⟨rfl, hb9⟩
                  have hb99 := Lib_hid (hb9.mono (GE.out _ hbS2.out).2.2.size)
                  clear hb9
                  go_wp2
                  go_ret
                  exact ⟨rfl, (GE.out _ hbS2.out).2.2.trans hb99.out⟩
                · have dz : ((L.length : Int) == 0) = false := beq_eq_false_iff_ne.2 (by omega)
                  have PK := Lib_hid (fun V : World => gpick_any which L.length V (by omega) (by omega))
                  go_wp2_with fail
                  refine (PK.out _).mono ?_
                  rintro r ws ⟨q, rfl, hq, rfl⟩
                  obtain ⟨bk, off, hAa, _, e0, e1, e2⟩ := AL.out _ hbS2.out q hq
                  subst hAa
                  have hqi : (q : Int) < (L.length : Int) := by omega
                  have hq0 : (0 : Int) ≤ (q : Int) := by omega
                  obtain ⟨x, hx⟩ : ∃ x, x = at3 L q := ⟨_, rfl⟩
                  have HX : Hid (x ∈ L ∧ EdOk x) := by rw [hx]; exact ⟨at3_mem hq, (HEO.out _ (at3_mem hq)).1⟩
                  rw [← hx] at e0 e1 e2
                  clear hx PK
                  go_upto_region 42 with (fail)
                  have bB := below_new wS (.cells #[.int .i64 x.1, .int .i64 x.2.1, .int .i64 x.2.2] 39)
                  have xB := heap_alloc_new wS (.cells #[.int .i64 x.1, .int .i64 x.2.1, .int .i64 x.2.2] 39)
                  have HB := Lib_hid (And.intro (hbS2.out.trans (bB.mono hbS2.out.size)) (hAS.out.trans (bB.mono hAS.out.size)))
                  have XB : Hid (∀ V : World, Below (wS.alloc (.cells #[.int .i64 x.1, .int .i64 x.2.1, .int .i64 x.2.2] 39)).heap.size (wS.alloc (.cells #[.int .i64 x.1, .int .i64 x.2.1, .int .i64 x.2.2] 39)) V → V.cell? ⟨wS.heap.size, 0, none⟩ = some (.int .i64 x.1) ∧ V.cell? ⟨wS.heap.size, 1, none⟩ = some (.int .i64 x.2.1) ∧ V.cell? ⟨wS.heap.size, 2, none⟩ = some (.int .i64 x.2.2)) := fun V hV => by
                    have h1 := (hV.block _ (Array.getElem?_eq_some_iff.1 xB).1).trans xB
                    exact ⟨cell_of_row _ _ 0 _ _ _ h1, cell_of_row _ _ 1 _ _ _ h1, cell_of_row _ _ 2 _ _ _ h1⟩
                  have HSB : Hid (wA.heap.size ≤ wS.heap.size ∧ wS.heap.size < (wS.alloc (.cells #[.int .i64 x.1, .int .i64 x.2.1, .int .i64 x.2.2] 39)).heap.size) := ⟨hAS.out.size, (Array.getElem?_eq_some_iff.1 xB).1⟩
                  clear bB xB hbS2 hAS e0 e1 e2 hqi hq0 hq
                  have NE := Lib_hid (fun (y : Ed) (W : World) => neq_pp y x W)
                  unfold eV at NE
                  generalize wS.alloc (.cells #[.int .i64 x.1, .int .i64 x.2.1, .int .i64 x.2.2] 39) = wB at *
                  generalize hsb : wS.heap.size = sb at *
                  clear hsb
                  generalize hx1 : x.1 = x1 at *
                  generalize hx2 : x.2.1 = x2 at *
                  generalize hx3 : x.2.2 = x3 at *
                  have HXC : Hid (x = (x1, x2, x3)) := by rw [← hx1, ← hx2, ← hx3]; rfl
                  clear hx1 hx2 hx3
                  go_wp2_with fail
                  go_loopw [25, 26] (fun t i wr => ∃ (k m ct : Nat) (At : Option Addr), t = .slice At m ct ∧ i = .int .i64 k ∧ k ≤ L.length ∧ Hid (m = (remE (L.take k) x).length) ∧ Hid (wr.ownsRow wB.heap.size 39 3 (.slice At m ct) m (ec (remE (L.take k) x)) ∧ Below wB.heap.size wB wr)) (fun _ i _ => L.length - (intOf i).toNat)
                  case atStart => exact ⟨0, 0, 0, none, rfl, rfl, Nat.zero_le _, rfl, own_zero _ _ _ _, Below.refl _ _⟩
                  case round =>
                    obtain ⟨k, m, ct, At, rfl, rfl, hk, hm, hs⟩ := hrel
                    by_cases hlk : k < L.length
                    · have dk : decide ((k : Int) < (L.length : Int)) = true := decide_eq_true (by omega)
                      obtain ⟨W1, rfl⟩ : ∃ W1, W1 = wr := ⟨wr, rfl⟩
                      obtain ⟨b', o', h', _, e0, e1, e2⟩ := AL.out _ (HB.out.1.trans (hs.out.2.mono HB.out.1.size)) k hlk
                      simp only [Option.some.injEq, Addr.mk.injEq, and_true] at h'
                      obtain ⟨rfl, rfl⟩ := h'
                      obtain ⟨k0, k1, k2⟩ := XB.out _ hs.out.2
                      have hki : (k : Int) < (L.length : Int) := by omega
                      have hk0 : (0 : Int) ≤ (k : Int) := by omega
                      have HRT := Lib_hid (remE_take (x := x) hlk)
                      have E1 := fun W : World => NE.out (at3 L k) W
                      have hmle : m ≤ 40 := by have h1 := hm.out; have h2 := remE_le (L.take k) x; rw [List.length_take] at h2; omega
                      by_cases he : at3 L k = x
                      · rw [if_pos he, List.append_nil] at HRT
                        rw [decide_eq_true he] at E1
                        rw [← HRT.out] at hm hs
                        clear HRT he
                        generalize (at3 L k).1 = a1 at *
                        generalize (at3 L k).2.1 = a2 at *
                        generalize (at3 L k).2.2 = a3 at *
                        have HQ : Hid (∀ nq : Nat, (W1.drewN nq).ownsRow wB.heap.size 39 3 (.slice At m ct) m (ec (remE (L.take (k + 1)) x)) ∧ Below wB.heap.size wB (W1.drewN nq)) := fun nq => ⟨hs.out.1, ⟨hs.out.2.os, hs.out.2.tape, hs.out.2.output, hs.out.2.size, hs.out.2.block⟩⟩
                        go_upto_region 46 with (fail)
                        go_quiet (fail)
                        have hs9 := Lib_hid (HQ.out nq)
                        go_wp2
                        go_roundw
                        case rel => exact ⟨k + 1, m, ct, At, rfl, by go_num, by omega, hm, hs9⟩
                        case measure => simp [intOf]; omega
                      · rw [if_neg he] at HRT
                        rw [decide_eq_false he] at E1
                        rw [show at3 L k = ((at3 L k).1, (at3 L k).2.1, (at3 L k).2.2) from rfl] at HRT
                        clear he
                        generalize (at3 L k).1 = a1 at *
                        generalize (at3 L k).2.1 = a2 at *
                        generalize (at3 L k).2.2 = a3 at *
                        have HQ : Hid (∀ nq : Nat, ((W1.drewN nq).ownsRow wB.heap.size 39 3 (.slice At m ct) m (ec (remE (L.take k) x)) ∧ Below wB.heap.size wB (W1.drewN nq)) ∧ (W1.drewN nq).cell? ⟨bk, off + k * 3, none⟩ = some (.int .i64 a1) ∧ (W1.drewN nq).cell? ⟨bk, off + k * 3 + 1, none⟩ = some (.int .i64 a2) ∧ (W1.drewN nq).cell? ⟨bk, off + k * 3 + 2, none⟩ = some (.int .i64 a3)) := fun nq => ⟨⟨hs.out.1, ⟨hs.out.2.os, hs.out.2.tape, hs.out.2.output, hs.out.2.size, hs.out.2.block⟩⟩, e0, e1, e2⟩
                        go_upto_region 46 with (fail)
                        go_quiet (fail)
                        go_upto_region 47 with (fail)
                        clear hs e0 e1 e2 k0 k1 k2 E1
                        have hs := Lib_hid (HQ.out nq).1
                        obtain ⟨-, e0', e1', e2'⟩ := HQ.out nq
                        clear HQ
                        generalize W1.drewN nq = W2 at *
                        have bA := below_new W2 (.cells #[.int .i64 a1, .int .i64 a2, .int .i64 a3] 39)
                        have HO2 := Lib_hid (And.intro (own_below hs.out.1 bA (own_lt hs.out.1)) (And.intro (ec_new W2 (a1, a2, a3) 39) (And.intro (hs.out.2.trans (bA.mono hs.out.2.size)) (Nat.le_trans hs.out.2.size bA.size))))
                        have hm1 : m + 1 ≤ maxLen := by unfold maxLen; omega
                        have hmb : (m + 1) * 24 ≤ 140737488355328 := by omega
                        clear bA
                        go_wp2_with (at_builtin; (refine wpList_app rfl _ _ 34 rfl wB.heap.size 39 i0 (.agg #[.int .i64 0, .int .i64 0, .int .i64 0]) 3 24 Try.underlying34 hi hz0 hz1 hz2 rfl (by decide) _ m _ rfl HO2.out.1 (W2.heap.size + 1) (some ⟨W2.heap.size, 0, none⟩) 1 1 (ec [(a1, a2, a3)]) rfl HO2.out.2.1 (ec_one _) hm1 hmb HO2.out.2.2.2 ?_); intro v' w6 hown6 hst; obtain ⟨Aw6, cw6, rfl⟩ := own_form' hown6)
                        rw [← ec_append, ← HRT.out] at hown6
                        have hbw6 := Lib_hid (And.intro hown6 (HO2.out.2.2.1.grown hst.grow HO2.out.2.2.2 (own_ge HO2.out.1)))
                        have hm2 : Hid (m + 1 = (remE (L.take (k + 1)) x).length) := by rw [HRT.out, List.length_append, ← hm.out]; rfl
                        clear hown6 hst HO2 e0' e1' e2'
                        go_wp2
                        go_roundw
                        case rel => exact ⟨k + 1, m + 1, cw6, Aw6, rfl, by go_num, by omega, hm2, hbw6⟩
                        case measure => simp [intOf]; omega
                    · obtain rfl : k = L.length := by omega
                      rw [List.take_length] at hm hs
                      have HRL : Hid (m = (remE L x).length ∧ m ≤ 1000 ∧ addEs [] (remE L x) = remE L x ∧ ∀ e ∈ remE L x, e ∈ L) := ⟨hm.out, by have h1 := hm.out; have h2 := remE_le L x; omega, addEs_srt (srt_remE HN6.out.2.2.2 x), fun e he => (mem_remE.1 he).1⟩
                      clear hm
                      obtain ⟨wP, rfl⟩ : ∃ wP, wP = wr := ⟨wr, rfl⟩
                      have hEP := Lib_hid (HB.out.1.trans (hs.out.2.mono HB.out.1.size))
                      have hAP := Lib_hid (HB.out.2.trans (hs.out.2.mono HB.out.2.size))
                      obtain ⟨q0, q1⟩ := (GE.out _ hEP.out).2.1
                      have NW := Lib_hid (pnew_any (N : Int) wP)
                      have hmz : m ≤ 1000 := HRL.out.2.1
                      go_upto_region 49 with (go_at_call 10; refine NW.out.mono ?_; rintro r wH (⟨hbad, -⟩ | ⟨-, pw, Sh2, rfl, hGh, hbH, hSh⟩); (exact absurd hbad (by have := HN6.out.1; omega)))
                      rw [Int.toNat_natCast] at hGh
                      have AD := Lib_hid (gadd_any (c := ct) hGh ((Rd.own hs.out.1).below hbH) hbH.size (fun ad hA hk => by
                        have h1 := hSh _ hk
                        have h2 := own_lt hs.out.1 ad.block (by rw [hA]; rfl)
                        omega) (fun e he => (HEO.out e (HRL.out.2.2.2 e he)).1) HN6.out.1 (by omega) (by decide))
                      have HH := Lib_hid (And.intro hbH hSh)
                      clear hGh hbH hSh NW q0 q1
                      go_upto_region 50 with (go_at_call 16; refine AD.out.mono ?_; rintro r wZ (⟨-, rfl, Sw, hGw, t1, hs1⟩ | ⟨hno, -⟩); rotate_left; (exact absurd (fun e he => okE_iff.2 (HEO.out e (HRL.out.2.2.2 e he)).2) hno))
                      rw [HRL.out.2.2.1] at hGw
                      have hPZ : Below wP.heap.size wP wZ := HH.out.1.trans (t1.below HH.out.1.size HH.out.2)
                      have HZ9 : Hid (GmIs wZ pw Sw N (remE L x) ∧ GmIs wZ ph S1 N L ∧ Below wA.heap.size wA wZ ∧ Below wE.heap.size wE wZ ∧ ∀ k, Sw k → wP.heap.size ≤ k) := ⟨hGw, HA.out.1.later (hAP.out.trans (hPZ.mono hAP.out.size)), hAP.out.trans (hPZ.mono hAP.out.size), hEP.out.trans (hPZ.mono hEP.out.size), fun k hk => (hs1 k hk).elim (HH.out.2 k) (fun h => Nat.le_trans HH.out.1.size h)⟩
                      have RM1 := Lib_hid (gremove_any HZ9.out.2.1 HX.out.2 HN6.out.1 (Nat.le_trans HN6.out.2.1 (by decide)))
                      have hXB := XB.out _ (hs.out.2.trans (hPZ.mono hs.out.2.size))
                      obtain ⟨k0, k1, k2⟩ := hXB
                      have HSZ : Hid (wA.heap.size ≤ sb ∧ sb < wZ.heap.size ∧ wA.heap.size ≤ wP.heap.size) := ⟨HSB.out.1, Nat.lt_of_lt_of_le HSB.out.2 (Nat.le_trans hs.out.2.size hPZ.size), hAP.out.size⟩
                      have HML : Hid ((remE L x).length ≤ 1000000) := by have h1 := HRL.out.1; have h2 := HRL.out.2.1; unfold Hid; omega
                      clear hGw t1 hs1 AD HH hPZ hEP XB hAP NE HB hs HRL hmz
                      rw [HXC.out] at RM1
                      unfold eV at RM1
                      go_wp2_with fail
                      refine RM1.out.mono ?_
                      rintro r w1 ⟨hr1, S2, hG2, t2, hs2⟩
                      obtain rfl : r = .returned (.bool true) := by rw [hr1, ← HXC.out, decide_eq_true HX.out.1]
                      rw [← HXC.out] at hG2
                      have xk : ∀ a, a = sb → w1.heap[a]? = wZ.heap[a]? := fun a ha => t2.block a (by rw [ha]; exact HSZ.out.2.1) (fun hk => by have h1 := HA.out.1.lt a hk; have h2 := HSZ.out.1; omega)
                      have j0 : w1.cell? ⟨sb, 0, none⟩ = some (.int .i64 x1) := (World.cell?_of_block (xk sb rfl)).trans k0
                      have j1 : w1.cell? ⟨sb, 1, none⟩ = some (.int .i64 x2) := (World.cell?_of_block (xk sb rfl)).trans k1
                      have j2 : w1.cell? ⟨sb, 2, none⟩ = some (.int .i64 x3) := (World.cell?_of_block (xk sb rfl)).trans k2
                      have H1 : Hid (GmIs w1 ph S2 N (remE L x) ∧ GmIs w1 pw Sw N (remE L x) ∧ Below wE.heap.size wE w1 ∧ wZ.heap.size ≤ w1.heap.size ∧ (∀ k, S2 k → wT.heap.size ≤ k) ∧ ∀ k, Sw k → ¬ S2 k) := ⟨hG2, HZ9.out.1.turns t2 (fun k hk hk' => by have h1 := HZ9.out.2.2.2.2 k hk; have h2 := HA.out.1.lt k hk'; have h3 := HSZ.out.2.2; omega), HZ9.out.2.2.2.1.trans (t2.below HZ9.out.2.2.2.1.size (fun k hk => Nat.le_trans HET.out (HA.out.2.2 k hk))), t2.size, fun k hk => (hs2 k hk).elim (HA.out.2.2 k) (fun h => by have h1 := HZ9.out.2.2.1.size; have h2 := HA.out.2.1.size; omega), fun k hk hk' => by
                        have h1 := HZ9.out.2.2.2.2 k hk
                        have h2 := HZ9.out.1.lt k hk
                        have h3 := HSZ.out.2.2
                        rcases hs2 k hk' with h | h
                        · have h4 := HA.out.1.lt k h
                          omega
                        · omega⟩
                      have RM2 := Lib_hid (gremove_any H1.out.1 HX.out.2 HN6.out.1 (Nat.le_trans HML.out (by decide)))
                      rw [HXC.out] at RM2
                      unfold eV at RM2
                      clear xk k0 k1 k2 hG2 t2 hs2 hr1 RM1
                      go_wp2_with fail
                      refine RM2.out.mono ?_
                      rintro r w2' ⟨hr1, S3, hG3, t3, hs3⟩
                      obtain rfl : r = .returned (.bool false) := by rw [hr1, ← HXC.out, decide_eq_false (fun h => (mem_remE.1 h).2 rfl)]
                      rw [← HXC.out, remE_rem] at hG3
                      have H2 : Hid (GmIs w2' ph S3 N (remE L x) ∧ GmIs w2' pw Sw N (remE L x) ∧ Below wE.heap.size wE w2') := ⟨hG3, H1.out.2.1.turns t3 (fun k hk hk' => H1.out.2.2.2.2.2 k hk hk'), H1.out.2.2.1.trans (t3.below H1.out.2.2.1.size (fun k hk => Nat.le_trans HET.out (H1.out.2.2.2.2.1 k hk)))⟩
                      have SA := Lib_hid (psame_any H2.out.1 H2.out.2.1 HN6.out.1 HN6.out.1 HML.out HML.out)
                      clear j0 j1 j2 hG3 t3 hs3 hr1 RM2
                      go_wp2_with fail
                      refine SA.out.mono ?_
                      rintro r w3 ⟨hr1, hb3⟩
                      obtain rfl : r = .returned (.bool true) := by rw [hr1]; simp
                      have hb3' := H2.out.2.2.trans (hb3.mono H2.out.2.2.size)
                      have SB := Lib_hid (psame_any (H2.out.1.later hb3) (GE.out _ hb3').1 HN6.out.1 HN6.out.1 HML.out HN6.out.2.1)
                      have HB3 := Lib_hid hb3'
                      have HNE := Lib_hid (remE_ne HX.out.1)
                      clear hb3 hb3' hr1 SA
                      go_wp2_with fail
                      refine SB.out.mono ?_
                      rintro r w4 ⟨hr1, hb4⟩
                      obtain rfl : r = .returned (.bool false) := by rw [hr1, decide_eq_false (fun h => HNE.out h.2)]
                      have HB4 := Lib_hid (HB3.out.trans (hb4.mono HB3.out.size))
                      clear hb4 hr1 SB
                      go_wp2_with fail
                      refine (HW.out _).mono ?_
                      rintro r w9 ⟨rfl, hb9⟩
                      have hb99 := Lib_hid (hb9.mono (GE.out _ HB4.out).2.2.size)
                      clear hb9
                      go_wp2
                      go_ret
                      exact ⟨rfl, (GE.out _ HB4.out).2.2.trans hb99.out⟩
  · have FIN : Hid (40 < nl ∨ (nl ≤ 40 ∧ 40 < no)) := by unfold Hid; omega
    clear hc h h' hok
    rcases FIN.out with h1 | ⟨h1, h2⟩
    · have d1 : decide ((40 : Int) < (nl : Int)) = true := decide_eq_true (by omega)
      clear h1 FIN
      go_wp2_with fail
      refine (HW.out _).mono ?_
      rintro r w2 ⟨rfl, hb⟩
      have hb2 := Lib_hid hb
      clear hb
      go_wp2
      go_ret
      exact ⟨rfl, hb2.out⟩
    · have d1 : decide ((40 : Int) < (nl : Int)) = false := decide_eq_false (by omega)
      have d2 : decide ((40 : Int) < (no : Int)) = true := decide_eq_true (by omega)
      clear h1 h2 FIN
      go_wp2_with fail
      refine (HW.out _).mono ?_
      rintro r w2 ⟨rfl, hb⟩
      have hb2 := Lib_hid hb
      clear hb
      go_wp2
      go_ret
      exact ⟨rfl, hb2.out⟩

end Go.Proofs.Ytopecdkkmbpnbaa
