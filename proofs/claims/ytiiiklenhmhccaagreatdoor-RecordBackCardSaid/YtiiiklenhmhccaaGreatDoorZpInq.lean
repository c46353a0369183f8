/-
  Layer 5: a version's text, whether it is unborn, versions' order: the program's.
  A region that draws its order and ends with a tail in one forced order (a store, an append): what is ahead of the tail may call, and make memory. No program is 
-/
import Derived.Test.YtiiiklenhmhccaaGreatDoorZpVlk
import Derived.Test.YtiiiklenhmhccaaGreatDoorZpTdg
import Derived.Test.YtiiiklenhmhccaaGreatDoorZpVcm
import Derived.Test.YtiiiklenhmhccaaGreatDoorZpIny
import Derived.Test.YtiiiklenhmhccaaGreatDoorZpVri

namespace Go.Proofs.YtiiiklenhmhccaaGreatDoor
open Go Go.RowKit
set_option linter.unusedVariables false
theorem two_cells {w : World} {b : Nat} {a0 a1 : Value} {T : TypeId} (h : w.heap[b]? = some (.cells #[a0, a1] T (0, 0))) : w.cell? ⟨b, 0, none⟩ = some a0 ∧ w.cell? ⟨b, 1, none⟩ = some a1 := ⟨cell_of_row w _ 0 _ _ _ h, cell_of_row w _ 1 _ _ _ h⟩
set_option maxRecDepth 100000 in
set_option maxHeartbeats 1600000 in
theorem vtext5_any (B p q : Nat) (ha : p < 18446744073709551616) (hb : q < 18446744073709551616) (w : World) (hE : Env B w) (hB : B ≤ w.heap.size) :
    Calls Tryz.prog 26 #[.agg #[.int .u64 (p : Int), .int .u64 (q : Int)]] w fun e w' => e = .returned (.string ⟨(verL p q).toArray⟩) ∧ Below w.heap.size w w' := by
  have CD : Hid (∀ n : Nat, n < 18446744073709551616 → ∀ W, Below w.heap.size w W → Calls Tryz.prog 60 #[.int .u64 (n : Int)] W fun e w' => e = .returned (.string ⟨(Lib.decDigits n).toArray⟩) ∧ Below W.heap.size W w') := fun n hn W hW => decimal_any B n hn W (hE.under (hW.mono (Nat.le_refl _)) hB)
  have CJ : Hid (∀ (g : Nat) (W : World), W.heap[g]? = some (.cells #[.string ⟨(Lib.decDigits p).toArray⟩, .string ⟨(Lib.decDigits q).toArray⟩] 9 (0, 0)) → Calls Tryz.prog 44 #[.string ⟨#[46]⟩, .slice (some ⟨g, 0, none⟩) 2 2] W fun e w' => e = .returned (.string ⟨(verL p q).toArray⟩) ∧ Below W.heap.size W w') := fun g W hg => by
    have hda := dec_len (x := p) (by omega)
    have hdb := dec_len (x := q) (by omega)
    have hj : Lib.join [Lib.decDigits p, Lib.decDigits q] [46] = verL p q := by simp [Lib.join, verL]
    have h := joined_any g 2 2 9 (some ⟨g, 0, none⟩) [Lib.decDigits p, Lib.decDigits q] [46] W ⟨rfl, .inr ⟨g, 2, _, rfl, Nat.le_refl _, hg, by decide, by decide, rfl, rfl⟩⟩ (by omega) (by rw [hj]; simp [verL]; omega)
    rwa [hj] at h
  have b1 := below_new w (.cells #[.int .u64 (p : Int), .int .u64 (q : Int)] 24)
  have h1 := heap_alloc_new w (.cells #[.int .u64 (p : Int), .int .u64 (q : Int)] 24)
  have BX : Hid (∀ W, Below (w.alloc (.cells #[.int .u64 (p : Int), .int .u64 (q : Int)] 24)).heap.size (w.alloc (.cells #[.int .u64 (p : Int), .int .u64 (q : Int)] 24)) W → W.heap[w.heap.size]? = some (.cells #[.int .u64 (p : Int), .int .u64 (q : Int)] 24 (0, 0)) ∧ Below w.heap.size w W) := fun W hW => ⟨(hW.block _ (lt_of_block h1)).trans h1, b1.trans (hW.mono b1.size)⟩
  clear b1 h1 hE
  go_enter Tryz.func26, Tryz.ntmps26
  go_upto_region 1 with (fail)
  generalize w.alloc (.cells #[.int .u64 (p : Int), .int .u64 (q : Int)] 24) = w1 at *
  refine wp_region_mid (N := 11) (fun i v ww => ([fun v ww => v = .pointer (some ⟨w.heap.size, 0, none⟩), fun v ww => v = .int .u64 (p : Int), fun v ww => v = .string ⟨(Lib.decDigits p).toArray⟩, fun v ww => v = .pointer (some ⟨w.heap.size, 1, none⟩), fun v ww => v = .int .u64 (q : Int), fun v ww => v = .string ⟨(Lib.decDigits q).toArray⟩, fun v ww => ∃ g, v = .slice (some ⟨g, 0, none⟩) 2 2 ∧ ww.heap[g]? = some (.cells #[.string ⟨(Lib.decDigits p).toArray⟩, .string ⟨(Lib.decDigits q).toArray⟩] 9 (0, 0)), fun v ww => v = .string ⟨(verL p q).toArray⟩, fun v ww => v = .string ⟨(verL p q).toArray⟩] : List (Value → World → Prop)).getD i (fun _ _ => True) v ww) (by kernel_rfl) (by kernel_rfl) rfl ?_ ?_ ?_
  · intro i v wa wb h0 hb hp
    by_cases hi : i < 9
    · have hcase : i = 0 ∨ i = 1 ∨ i = 2 ∨ i = 3 ∨ i = 4 ∨ i = 5 ∨ i = 6 ∨ i = 7 ∨ i = 8 := by omega
      rcases hcase with rfl | rfl | rfl | rfl | rfl | rfl | rfl | rfl | rfl
      · exact hp
      · exact hp
      · exact hp
      · exact hp
      · exact hp
      · exact hp
      · obtain ⟨g, e, hg⟩ := hp
        exact ⟨g, e, (hb.block g (lt_of_block hg)).trans hg⟩
      · exact hp
      · exact hp
    · have hnn : ([fun v ww => v = .pointer (some ⟨w.heap.size, 0, none⟩), fun v ww => v = .int .u64 (p : Int), fun v ww => v = .string ⟨(Lib.decDigits p).toArray⟩, fun v ww => v = .pointer (some ⟨w.heap.size, 1, none⟩), fun v ww => v = .int .u64 (q : Int), fun v ww => v = .string ⟨(Lib.decDigits q).toArray⟩, fun v ww => ∃ g, v = .slice (some ⟨g, 0, none⟩) 2 2 ∧ ww.heap[g]? = some (.cells #[.string ⟨(Lib.decDigits p).toArray⟩, .string ⟨(Lib.decDigits q).toArray⟩] 9 (0, 0)), fun v ww => v = .string ⟨(verL p q).toArray⟩, fun v ww => v = .string ⟨(verL p q).toArray⟩] : List (Value → World → Prop))[i]? = none := List.getElem?_eq_none (by simpa using hi)
      rw [List.getD_eq_getElem?_getD, hnn]
      trivial
  · intro i o a wx hi hM hD
    have hi8 : i < 9 := (Array.getElem?_eq_some_iff.1 hi).1
    have hcase : i = 0 ∨ i = 1 ∨ i = 2 ∨ i = 3 ∨ i = 4 ∨ i = 5 ∨ i = 6 ∨ i = 7 ∨ i = 8 := by omega
    clear hi8
    rcases hcase with rfl | rfl | rfl | rfl | rfl | rfl | rfl | rfl | rfl
    · obtain rfl := Option.some.inj hi
      have e1 : a.tmps.getD 1 undef = .pointer (some ⟨w.heap.size, 0, none⟩) := (hM.other 1 (by decide +kernel)).trans rfl
      refine ⟨rfl, mid_step (.pointer (some ⟨w.heap.size, 0, none⟩)) wx (fun K hK => ?_) ⟨_, rfl, rfl, Below.refl _ _⟩⟩
      go_simp
      exact hK
    · obtain rfl := Option.some.inj hi
      have e3 : a.tmps.getD 3 undef = .pointer (some ⟨w.heap.size, 0, none⟩) := hD 0 (by kernel_rfl) _ 3 rfl rfl
      obtain ⟨c0, c1⟩ := two_cells (BX.out wx hM.below).1
      refine ⟨rfl, mid_step (.int .u64 (p : Int)) wx (fun K hK => ?_) ⟨_, rfl, rfl, Below.refl _ _⟩⟩
      go_simp
      exact hK
    · obtain rfl := Option.some.inj hi
      have e4 : a.tmps.getD 4 undef = .int .u64 (p : Int) := hD 1 (by kernel_rfl) _ 4 rfl rfl
      refine ⟨rfl, mid_call (fun v w' => v = (.string ⟨(Lib.decDigits p).toArray⟩) ∧ Below wx.heap.size wx w') (fun K hK => ?_) (fun v w' h => ⟨v, rfl, h.1, h.2⟩)⟩
      go_simp
      refine (CD.out p ha wx (BX.out wx hM.below).2).mono ?_
      rintro e w' ⟨rfl, hb'⟩
      exact hK _ _ ⟨rfl, hb'⟩
    · obtain rfl := Option.some.inj hi
      have e1 : a.tmps.getD 1 undef = .pointer (some ⟨w.heap.size, 0, none⟩) := (hM.other 1 (by decide +kernel)).trans rfl
      refine ⟨rfl, mid_step (.pointer (some ⟨w.heap.size, 1, none⟩)) wx (fun K hK => ?_) ⟨_, rfl, rfl, Below.refl _ _⟩⟩
      go_simp
      exact hK
    · obtain rfl := Option.some.inj hi
      have e6 : a.tmps.getD 6 undef = .pointer (some ⟨w.heap.size, 1, none⟩) := hD 3 (by kernel_rfl) _ 6 rfl rfl
      obtain ⟨c0, c1⟩ := two_cells (BX.out wx hM.below).1
      refine ⟨rfl, mid_step (.int .u64 (q : Int)) wx (fun K hK => ?_) ⟨_, rfl, rfl, Below.refl _ _⟩⟩
      go_simp
      exact hK
    · obtain rfl := Option.some.inj hi
      have e7 : a.tmps.getD 7 undef = .int .u64 (q : Int) := hD 4 (by kernel_rfl) _ 7 rfl rfl
      refine ⟨rfl, mid_call (fun v w' => v = (.string ⟨(Lib.decDigits q).toArray⟩) ∧ Below wx.heap.size wx w') (fun K hK => ?_) (fun v w' h => ⟨v, rfl, h.1, h.2⟩)⟩
      go_simp
      refine (CD.out q hb wx (BX.out wx hM.below).2).mono ?_
      rintro e w' ⟨rfl, hb'⟩
      exact hK _ _ ⟨rfl, hb'⟩
    · obtain rfl := Option.some.inj hi
      have e5 : a.tmps.getD 5 undef = .string ⟨(Lib.decDigits p).toArray⟩ := hD 2 (by kernel_rfl) _ 5 rfl rfl
      have e8 : a.tmps.getD 8 undef = .string ⟨(Lib.decDigits q).toArray⟩ := hD 5 (by kernel_rfl) _ 8 rfl rfl
      have f5 := e5
      have f8 := e8
      rw [Array.getD_eq_getD_getElem?] at f5 f8
      refine ⟨rfl, mid_step (.slice (some ⟨wx.heap.size, 0, none⟩) 2 2) (wx.alloc (.cells #[.string ⟨(Lib.decDigits p).toArray⟩, .string ⟨(Lib.decDigits q).toArray⟩] 9)) (fun K hK => ?_) ⟨_, rfl, ⟨_, rfl, heap_alloc_new _ _⟩, below_new _ _⟩⟩
      go_simp
      exact hK
    · obtain rfl := Option.some.inj hi
      obtain ⟨g, e9, hg⟩ := hD 6 (by kernel_rfl) _ 9 rfl rfl
      refine ⟨rfl, mid_call (fun v w' => v = (.string ⟨(verL p q).toArray⟩) ∧ Below wx.heap.size wx w') (fun K hK => ?_) (fun v w' h => ⟨v, rfl, h.1, h.2⟩)⟩
      go_simp
      refine (CJ.out g wx hg).mono ?_
      rintro e w' ⟨rfl, hb'⟩
      exact hK _ _ ⟨rfl, hb'⟩
    · obtain rfl := Option.some.inj hi
      have e10 : a.tmps.getD 10 undef = .string ⟨(verL p q).toArray⟩ := hD 7 (by kernel_rfl) _ 10 rfl rfl
      refine ⟨rfl, mid_step (.string ⟨(verL p q).toArray⟩) wx (fun K hK => ?_) ⟨_, rfl, rfl, Below.refl _ _⟩⟩
      go_simp
      exact hK
  · intro a wx hM hD
    have q0 := hD 0 (by decide) _ 3 rfl rfl
    have q1 := hD 1 (by decide) _ 4 rfl rfl
    have q2 := hD 2 (by decide) _ 5 rfl rfl
    have q3 := hD 3 (by decide) _ 6 rfl rfl
    have q4 := hD 4 (by decide) _ 7 rfl rfl
    have q5 := hD 5 (by decide) _ 8 rfl rfl
    obtain ⟨g6, q6, -⟩ := hD 6 (by decide) _ 9 rfl rfl
    have q7 := hD 7 (by decide) _ 10 rfl rfl
    have q8 := hD 8 (by decide) _ 2 rfl rfl
    have hact := act_puts (a := a) [(3, .pointer (some ⟨w.heap.size, 0, none⟩)), (4, .int .u64 (p : Int)), (5, .string ⟨(Lib.decDigits p).toArray⟩), (6, .pointer (some ⟨w.heap.size, 1, none⟩)), (7, .int .u64 (q : Int)), (8, .string ⟨(Lib.decDigits q).toArray⟩), (9, .slice (some ⟨g6, 0, none⟩) 2 2), (10, .string ⟨(verL p q).toArray⟩), (2, .string ⟨(verL p q).toArray⟩)] _ hM.tmps hM.defers (by
      intro s v hm
      simp only [List.mem_cons, Prod.mk.injEq, List.not_mem_nil, or_false] at hm
      rcases hm with ⟨rfl, rfl⟩ | ⟨rfl, rfl⟩ | ⟨rfl, rfl⟩ | ⟨rfl, rfl⟩ | ⟨rfl, rfl⟩ | ⟨rfl, rfl⟩ | ⟨rfl, rfl⟩ | ⟨rfl, rfl⟩ | ⟨rfl, rfl⟩
      · exact ⟨(by show 3 < 11; decide), q0⟩
      · exact ⟨(by show 4 < 11; decide), q1⟩
      · exact ⟨(by show 5 < 11; decide), q2⟩
      · exact ⟨(by show 6 < 11; decide), q3⟩
      · exact ⟨(by show 7 < 11; decide), q4⟩
      · exact ⟨(by show 8 < 11; decide), q5⟩
      · exact ⟨(by show 9 < 11; decide), q6⟩
      · exact ⟨(by show 10 < 11; decide), q7⟩
      · exact ⟨(by show 2 < 11; decide), q8⟩) (fun s hs => hM.other s (by exact hs))
    rw [hact]
    have hBX := hM.below
    clear hact hD hM q0 q1 q2 q3 q4 q5 q6 q7 q8
    simp only [List.foldl, Act.put, List.setIfInBounds_toArray, List.set_cons_succ, List.set_cons_zero]
    have hbw := (BX.out wx hBX).2
    go_wp2
    go_ret
    exact ⟨rfl, hbw⟩
set_option maxRecDepth 100000 in
set_option maxHeartbeats 1600000 in
theorem vcmp5_any (p q x y : Nat) (w : World) : Calls Tryz.prog 24 #[.agg #[.int .u64 (p : Int), .int .u64 (q : Int)], .agg #[.int .u64 (x : Int), .int .u64 (y : Int)]] w fun e w' => e = .returned (.int .i64 (cmpV p q x y)) ∧ Below w.heap.size w w' := by
  have CO : Hid (∀ (g : Nat) (W : World), W.heap[g]? = some (.cells #[.int .i64 (cmpN p x), .int .i64 (cmpN q y)] 3 (0, 0)) → Calls Tryz.prog 58 #[.slice (some ⟨g, 0, none⟩) 2 2] W fun e w' => e = .returned (.int .i64 (cmpV p q x y)) ∧ Below W.heap.size W w') := fun g W hg => (cor5_any g (cmpN p x) (cmpN q y) W (two_cells hg).1 (two_cells hg).2).mono fun e w' h => ⟨h.1, by rw [h.2]; exact Below.refl _ _⟩
  have b1 := below_new w (.cells #[.int .u64 (p : Int), .int .u64 (q : Int)] 24)
  have h1 := heap_alloc_new w (.cells #[.int .u64 (p : Int), .int .u64 (q : Int)] 24)
  have s1 : (w.alloc (.cells #[.int .u64 (p : Int), .int .u64 (q : Int)] 24)).heap.size = w.heap.size + 1 := by simp
  have b2 := below_new (w.alloc (.cells #[.int .u64 (p : Int), .int .u64 (q : Int)] 24)) (.cells #[.int .u64 (x : Int), .int .u64 (y : Int)] 24)
  have h2 := heap_alloc_new (w.alloc (.cells #[.int .u64 (p : Int), .int .u64 (q : Int)] 24)) (.cells #[.int .u64 (x : Int), .int .u64 (y : Int)] 24)
  have BX : Hid (∀ W, Below ((w.alloc (.cells #[.int .u64 (p : Int), .int .u64 (q : Int)] 24)).alloc (.cells #[.int .u64 (x : Int), .int .u64 (y : Int)] 24)).heap.size ((w.alloc (.cells #[.int .u64 (p : Int), .int .u64 (q : Int)] 24)).alloc (.cells #[.int .u64 (x : Int), .int .u64 (y : Int)] 24)) W → W.heap[w.heap.size]? = some (.cells #[.int .u64 (p : Int), .int .u64 (q : Int)] 24 (0, 0)) ∧ W.heap[w.heap.size + 1]? = some (.cells #[.int .u64 (x : Int), .int .u64 (y : Int)] 24 (0, 0)) ∧ Below w.heap.size w W) := fun W hW => by
    have h1' := (b2.block _ (lt_of_block h1)).trans h1
    rw [s1] at h2
    exact ⟨(hW.block _ (lt_of_block h1')).trans h1', (hW.block _ (lt_of_block h2)).trans h2, (b1.trans (b2.mono b1.size)).trans (hW.mono (by simp; omega))⟩
  generalize cmpV p q x y = z at *
  clear b1 h1 b2 h2 s1
  go_enter Tryz.func24, Tryz.ntmps24
  go_upto_region 1 with (fail)
  generalize (w.alloc (.cells #[.int .u64 (p : Int), .int .u64 (q : Int)] 24)).alloc (.cells #[.int .u64 (x : Int), .int .u64 (y : Int)] 24) = w1 at *
  refine wp_region_mid (N := 17) (fun i v ww => ([fun v ww => v = .pointer (some ⟨w.heap.size, 0, none⟩), fun v ww => v = .int .u64 (p : Int), fun v ww => v = .pointer (some ⟨(w.heap.size + 1), 0, none⟩), fun v ww => v = .int .u64 (x : Int), fun v ww => v = .int .i64 (cmpN p x), fun v ww => v = .pointer (some ⟨w.heap.size, 1, none⟩), fun v ww => v = .int .u64 (q : Int), fun v ww => v = .pointer (some ⟨(w.heap.size + 1), 1, none⟩), fun v ww => v = .int .u64 (y : Int), fun v ww => v = .int .i64 (cmpN q y), fun v ww => ∃ g, v = .slice (some ⟨g, 0, none⟩) 2 2 ∧ ww.heap[g]? = some (.cells #[.int .i64 (cmpN p x), .int .i64 (cmpN q y)] 3 (0, 0)), fun v ww => v = .int .i64 z, fun v ww => v = .int .i64 z] : List (Value → World → Prop)).getD i (fun _ _ => True) v ww) (by kernel_rfl) (by kernel_rfl) rfl ?_ ?_ ?_
  · intro i v wa wb h0 hb hp
    by_cases hi : i < 13
    · have hcase : i = 0 ∨ i = 1 ∨ i = 2 ∨ i = 3 ∨ i = 4 ∨ i = 5 ∨ i = 6 ∨ i = 7 ∨ i = 8 ∨ i = 9 ∨ i = 10 ∨ i = 11 ∨ i = 12 := by omega
      rcases hcase with rfl | rfl | rfl | rfl | rfl | rfl | rfl | rfl | rfl | rfl | rfl | rfl | rfl
      · exact hp
      · exact hp
      · exact hp
      · exact hp
      · exact hp
      · exact hp
      · exact hp
      · exact hp
      · exact hp
      · exact hp
      · obtain ⟨g, e, hg⟩ := hp
        exact ⟨g, e, (hb.block g (lt_of_block hg)).trans hg⟩
      · exact hp
      · exact hp
    · have hnn : ([fun v ww => v = .pointer (some ⟨w.heap.size, 0, none⟩), fun v ww => v = .int .u64 (p : Int), fun v ww => v = .pointer (some ⟨(w.heap.size + 1), 0, none⟩), fun v ww => v = .int .u64 (x : Int), fun v ww => v = .int .i64 (cmpN p x), fun v ww => v = .pointer (some ⟨w.heap.size, 1, none⟩), fun v ww => v = .int .u64 (q : Int), fun v ww => v = .pointer (some ⟨(w.heap.size + 1), 1, none⟩), fun v ww => v = .int .u64 (y : Int), fun v ww => v = .int .i64 (cmpN q y), fun v ww => ∃ g, v = .slice (some ⟨g, 0, none⟩) 2 2 ∧ ww.heap[g]? = some (.cells #[.int .i64 (cmpN p x), .int .i64 (cmpN q y)] 3 (0, 0)), fun v ww => v = .int .i64 z, fun v ww => v = .int .i64 z] : List (Value → World → Prop))[i]? = none := List.getElem?_eq_none (by simpa using hi)
      rw [List.getD_eq_getElem?_getD, hnn]
      trivial
  · intro i o a wx hi hM hD
    have hi8 : i < 13 := (Array.getElem?_eq_some_iff.1 hi).1
    have hcase : i = 0 ∨ i = 1 ∨ i = 2 ∨ i = 3 ∨ i = 4 ∨ i = 5 ∨ i = 6 ∨ i = 7 ∨ i = 8 ∨ i = 9 ∨ i = 10 ∨ i = 11 ∨ i = 12 := by omega
    clear hi8
    rcases hcase with rfl | rfl | rfl | rfl | rfl | rfl | rfl | rfl | rfl | rfl | rfl | rfl | rfl
    · obtain rfl := Option.some.inj hi
      have e2 : a.tmps.getD 2 undef = .pointer (some ⟨w.heap.size, 0, none⟩) := (hM.other 2 (by decide +kernel)).trans rfl
      refine ⟨rfl, mid_step (.pointer (some ⟨w.heap.size, 0, none⟩)) wx (fun K hK => ?_) ⟨_, rfl, rfl, Below.refl _ _⟩⟩
      go_simp
      exact hK
    · obtain rfl := Option.some.inj hi
      have e5 : a.tmps.getD 5 undef = .pointer (some ⟨w.heap.size, 0, none⟩) := hD 0 (by kernel_rfl) _ 5 rfl rfl
      obtain ⟨c0, c1⟩ := two_cells (BX.out wx hM.below).1
      refine ⟨rfl, mid_step (.int .u64 (p : Int)) wx (fun K hK => ?_) ⟨_, rfl, rfl, Below.refl _ _⟩⟩
      go_simp
      exact hK
    · obtain rfl := Option.some.inj hi
      have e3 : a.tmps.getD 3 undef = .pointer (some ⟨(w.heap.size + 1), 0, none⟩) := (hM.other 3 (by decide +kernel)).trans rfl
      refine ⟨rfl, mid_step (.pointer (some ⟨(w.heap.size + 1), 0, none⟩)) wx (fun K hK => ?_) ⟨_, rfl, rfl, Below.refl _ _⟩⟩
      go_simp
      exact hK
    · obtain rfl := Option.some.inj hi
      have e7 : a.tmps.getD 7 undef = .pointer (some ⟨(w.heap.size + 1), 0, none⟩) := hD 2 (by kernel_rfl) _ 7 rfl rfl
      obtain ⟨c0, c1⟩ := two_cells (BX.out wx hM.below).2.1
      refine ⟨rfl, mid_step (.int .u64 (x : Int)) wx (fun K hK => ?_) ⟨_, rfl, rfl, Below.refl _ _⟩⟩
      go_simp
      exact hK
    · obtain rfl := Option.some.inj hi
      have e6 : a.tmps.getD 6 undef = .int .u64 (p : Int) := hD 1 (by kernel_rfl) _ 6 rfl rfl
      have e8 : a.tmps.getD 8 undef = .int .u64 (x : Int) := hD 3 (by kernel_rfl) _ 8 rfl rfl
      refine ⟨rfl, mid_call (fun v w' => v = (.int .i64 (cmpN p x)) ∧ Below wx.heap.size wx w') (fun K hK => ?_) (fun v w' h => ⟨v, rfl, h.1, h.2⟩)⟩
      go_simp
      refine (((compare_any p x wx).mono fun e w' h => (⟨h.1, by rw [h.2]; exact Below.refl _ _⟩ : e = .returned (.int .i64 (cmpN p x)) ∧ Below wx.heap.size wx w'))).mono ?_
      rintro e w' ⟨rfl, hb'⟩
      exact hK _ _ ⟨rfl, hb'⟩
    · obtain rfl := Option.some.inj hi
      have e2 : a.tmps.getD 2 undef = .pointer (some ⟨w.heap.size, 0, none⟩) := (hM.other 2 (by decide +kernel)).trans rfl
      refine ⟨rfl, mid_step (.pointer (some ⟨w.heap.size, 1, none⟩)) wx (fun K hK => ?_) ⟨_, rfl, rfl, Below.refl _ _⟩⟩
      go_simp
      exact hK
    · obtain rfl := Option.some.inj hi
      have e10 : a.tmps.getD 10 undef = .pointer (some ⟨w.heap.size, 1, none⟩) := hD 5 (by kernel_rfl) _ 10 rfl rfl
      obtain ⟨c0, c1⟩ := two_cells (BX.out wx hM.below).1
      refine ⟨rfl, mid_step (.int .u64 (q : Int)) wx (fun K hK => ?_) ⟨_, rfl, rfl, Below.refl _ _⟩⟩
      go_simp
      exact hK
    · obtain rfl := Option.some.inj hi
      have e3 : a.tmps.getD 3 undef = .pointer (some ⟨(w.heap.size + 1), 0, none⟩) := (hM.other 3 (by decide +kernel)).trans rfl
      refine ⟨rfl, mid_step (.pointer (some ⟨(w.heap.size + 1), 1, none⟩)) wx (fun K hK => ?_) ⟨_, rfl, rfl, Below.refl _ _⟩⟩
      go_simp
      exact hK
    · obtain rfl := Option.some.inj hi
      have e12 : a.tmps.getD 12 undef = .pointer (some ⟨(w.heap.size + 1), 1, none⟩) := hD 7 (by kernel_rfl) _ 12 rfl rfl
      obtain ⟨c0, c1⟩ := two_cells (BX.out wx hM.below).2.1
      refine ⟨rfl, mid_step (.int .u64 (y : Int)) wx (fun K hK => ?_) ⟨_, rfl, rfl, Below.refl _ _⟩⟩
      go_simp
      exact hK
    · obtain rfl := Option.some.inj hi
      have e11 : a.tmps.getD 11 undef = .int .u64 (q : Int) := hD 6 (by kernel_rfl) _ 11 rfl rfl
      have e13 : a.tmps.getD 13 undef = .int .u64 (y : Int) := hD 8 (by kernel_rfl) _ 13 rfl rfl
      refine ⟨rfl, mid_call (fun v w' => v = (.int .i64 (cmpN q y)) ∧ Below wx.heap.size wx w') (fun K hK => ?_) (fun v w' h => ⟨v, rfl, h.1, h.2⟩)⟩
      go_simp
      refine (((compare_any q y wx).mono fun e w' h => (⟨h.1, by rw [h.2]; exact Below.refl _ _⟩ : e = .returned (.int .i64 (cmpN q y)) ∧ Below wx.heap.size wx w'))).mono ?_
      rintro e w' ⟨rfl, hb'⟩
      exact hK _ _ ⟨rfl, hb'⟩
    · obtain rfl := Option.some.inj hi
      have e9 : a.tmps.getD 9 undef = .int .i64 (cmpN p x) := hD 4 (by kernel_rfl) _ 9 rfl rfl
      have e14 : a.tmps.getD 14 undef = .int .i64 (cmpN q y) := hD 9 (by kernel_rfl) _ 14 rfl rfl
      have f9 := e9
      have f14 := e14
      rw [Array.getD_eq_getD_getElem?] at f9 f14
      refine ⟨rfl, mid_step (.slice (some ⟨wx.heap.size, 0, none⟩) 2 2) (wx.alloc (.cells #[.int .i64 (cmpN p x), .int .i64 (cmpN q y)] 3)) (fun K hK => ?_) ⟨_, rfl, ⟨_, rfl, heap_alloc_new _ _⟩, below_new _ _⟩⟩
      go_simp
      exact hK
    · obtain rfl := Option.some.inj hi
      obtain ⟨g, e15, hg⟩ := hD 10 (by kernel_rfl) _ 15 rfl rfl
      refine ⟨rfl, mid_call (fun v w' => v = (.int .i64 z) ∧ Below wx.heap.size wx w') (fun K hK => ?_) (fun v w' h => ⟨v, rfl, h.1, h.2⟩)⟩
      go_simp
      refine (CO.out g wx hg).mono ?_
      rintro e w' ⟨rfl, hb'⟩
      exact hK _ _ ⟨rfl, hb'⟩
    · obtain rfl := Option.some.inj hi
      have e16 : a.tmps.getD 16 undef = .int .i64 z := hD 11 (by kernel_rfl) _ 16 rfl rfl
      refine ⟨rfl, mid_step (.int .i64 z) wx (fun K hK => ?_) ⟨_, rfl, rfl, Below.refl _ _⟩⟩
      go_simp
      exact hK
  · intro a wx hM hD
    have q0 := hD 0 (by decide) _ 5 rfl rfl
    have q1 := hD 1 (by decide) _ 6 rfl rfl
    have q2 := hD 2 (by decide) _ 7 rfl rfl
    have q3 := hD 3 (by decide) _ 8 rfl rfl
    have q4 := hD 4 (by decide) _ 9 rfl rfl
    have q5 := hD 5 (by decide) _ 10 rfl rfl
    have q6 := hD 6 (by decide) _ 11 rfl rfl
    have q7 := hD 7 (by decide) _ 12 rfl rfl
    have q8 := hD 8 (by decide) _ 13 rfl rfl
    have q9 := hD 9 (by decide) _ 14 rfl rfl
    obtain ⟨g10, q10, -⟩ := hD 10 (by decide) _ 15 rfl rfl
    have q11 := hD 11 (by decide) _ 16 rfl rfl
    have q12 := hD 12 (by decide) _ 4 rfl rfl
    have hact := act_puts (a := a) [(5, .pointer (some ⟨w.heap.size, 0, none⟩)), (6, .int .u64 (p : Int)), (7, .pointer (some ⟨(w.heap.size + 1), 0, none⟩)), (8, .int .u64 (x : Int)), (9, .int .i64 (cmpN p x)), (10, .pointer (some ⟨w.heap.size, 1, none⟩)), (11, .int .u64 (q : Int)), (12, .pointer (some ⟨(w.heap.size + 1), 1, none⟩)), (13, .int .u64 (y : Int)), (14, .int .i64 (cmpN q y)), (15, .slice (some ⟨g10, 0, none⟩) 2 2), (16, .int .i64 z), (4, .int .i64 z)] _ hM.tmps hM.defers (by
      intro s v hm
      simp only [List.mem_cons, Prod.mk.injEq, List.not_mem_nil, or_false] at hm
      rcases hm with ⟨rfl, rfl⟩ | ⟨rfl, rfl⟩ | ⟨rfl, rfl⟩ | ⟨rfl, rfl⟩ | ⟨rfl, rfl⟩ | ⟨rfl, rfl⟩ | ⟨rfl, rfl⟩ | ⟨rfl, rfl⟩ | ⟨rfl, rfl⟩ | ⟨rfl, rfl⟩ | ⟨rfl, rfl⟩ | ⟨rfl, rfl⟩ | ⟨rfl, rfl⟩
      · exact ⟨(by show 5 < 17; decide), q0⟩
      · exact ⟨(by show 6 < 17; decide), q1⟩
      · exact ⟨(by show 7 < 17; decide), q2⟩
      · exact ⟨(by show 8 < 17; decide), q3⟩
      · exact ⟨(by show 9 < 17; decide), q4⟩
      · exact ⟨(by show 10 < 17; decide), q5⟩
      · exact ⟨(by show 11 < 17; decide), q6⟩
      · exact ⟨(by show 12 < 17; decide), q7⟩
      · exact ⟨(by show 13 < 17; decide), q8⟩
      · exact ⟨(by show 14 < 17; decide), q9⟩
      · exact ⟨(by show 15 < 17; decide), q10⟩
      · exact ⟨(by show 16 < 17; decide), q11⟩
      · exact ⟨(by show 4 < 17; decide), q12⟩) (fun s hs => hM.other s (by exact hs))
    rw [hact]
    have hBX := hM.below
    clear hact hD hM q0 q1 q2 q3 q4 q5 q6 q7 q8 q9 q10 q11 q12
    simp only [List.foldl, Act.put, List.setIfInBounds_toArray, List.set_cons_succ, List.set_cons_zero]
    have hbw := (BX.out wx hBX).2.2
    go_wp2
    go_ret
    exact ⟨rfl, hbw⟩
theorem unborn5_any (p q : Nat) (w : World) : Calls Tryz.prog 28 #[.agg #[.int .u64 (p : Int), .int .u64 (q : Int)]] w fun e w' => e = .returned (.bool (decide (p = 0 ∧ q = 0))) ∧ Below w.heap.size w w' := by
  by_cases h : p = 0 ∧ q = 0
  · obtain ⟨rfl, rfl⟩ := h
    go_enter Tryz.func28, Tryz.ntmps28
    go_wp2
    go_ret
    exact ⟨rfl, below_new w _⟩
  · have hd : Hid (decide (p = 0 ∧ q = 0) = false) := by unfold Hid; simp [h]
    have hpq : p ≠ 0 ∨ q ≠ 0 := by omega
    rcases hpq with h1 | h1
    · have h2 : ((p : Int) == 0) = false := by simp [h1]
      rw [hd.out]
      clear h h1 hd
      go_enter Tryz.func28, Tryz.ntmps28
      go_wp2
      all_goals
        go_ret
        exact ⟨rfl, below_new w _⟩
    · have h2 : ((q : Int) == 0) = false := by simp [h1]
      rw [hd.out]
      clear h h1 hd
      go_enter Tryz.func28, Tryz.ntmps28
      go_wp2
      all_goals
        go_ret
        exact ⟨rfl, below_new w _⟩
end Go.Proofs.YtiiiklenhmhccaaGreatDoor

namespace Go.Proofs.YtiiiklenhmhccaaGreatDoor
open Go Go.RowKit
set_option linter.unusedVariables false
section
variable {P : Program} {ops : Array Oper} {Q : Exit → Act → World → Prop} {Pr : Nat → Value → World → Prop} {a0 : Act} {w0 : World}
def reachB (ops : Array Oper) : Nat → Nat → Nat → Bool
  | 0, _, _ => false
  | f + 1, i, k => match ops[i]? with
    | none => false
    | some o => o.after.any fun e => Region.binds .any e && (decide (e.on = k) || reachB ops f e.on k)
theorem reach_listed {listed : Array Bool} (hC : ∀ j o, ops[j]? = some o → listed.getD j false = true → ∀ e ∈ o.after, Region.binds .any e = true → listed.getD e.on false = true) :
    ∀ (f i k : Nat) (o : Oper), ops[i]? = some o → (∀ e ∈ o.after, Region.binds .any e = true → listed.getD e.on false = true) → reachB ops f i k = true → listed.getD k false = true := by
  intro f
  induction f with
  | zero => intro i k o ho hd h; cases h
  | succ f ih =>
    intro i k o ho hd h
    unfold reachB at h
    rw [ho] at h
    simp only at h
    rw [← Array.any_toList, List.any_eq_true] at h
    obtain ⟨e, he, h4⟩ := h
    have he := Array.mem_toList_iff.1 he
    rw [Bool.and_eq_true, Bool.or_eq_true, decide_eq_true_eq] at h4
    have hl := hd e he h4.1
    rcases h4.2 with h5 | h5
    · rw [← h5]; exact hl
    · cases hoe : ops[e.on]? with
      | none =>
        exfalso
        cases f with
        | zero => cases h5
        | succ f => unfold reachB at h5; rw [hoe] at h5; cases h5
      | some o' => exact ih e.on k o' hoe (hC e.on o' hoe hl) h5
theorem wpAny_tail (m : Nat) (hback : ∀ (i : Nat) (o : Oper), ops[i]? = some o → ∀ e ∈ o.after, e.on < i)
    (htail : ∀ (i : Nat) (o : Oper), ops[i]? = some o → m ≤ i → ∀ k, k < i → reachB ops 9 i k = true) :
    ∀ (l : List Oper) (k fuel : Nat) (listed : Array Bool) (a : Act) (w : World), (∀ j, l[j]? = ops[k + j]?) → m ≤ k → listed.size = ops.size → (∀ i, i < k → i < ops.size → listed.getD i false = true) → (∀ i, k ≤ i → i < ops.size → listed.getD i true = false) →
      l.length ≤ fuel → wpList P ops Q l a w → wpAny P .any ops Q fuel listed a w := by
  intro l
  induction l with
  | nil =>
    intro k fuel listed a w hl hk hs h1 h2 hf h
    have hn : ops.size ≤ k := by
      have := hl 0
      rw [List.getElem?_nil, Nat.add_zero] at this
      exact Array.getElem?_eq_none_iff.1 this.symm
    have hr : Region.ready .any ops listed = [] := by
      apply List.eq_nil_iff_forall_not_mem.2
      intro j hj
      rw [mem_ready] at hj
      obtain ⟨hj1, o, ho, _⟩ := hj
      have hlt := (Array.getElem?_eq_some_iff.1 ho).1
      have h3 := h1 j (by omega) hlt
      have hi' : j < listed.size := by omega
      rw [Array.getD_eq_getD_getElem?, Array.getElem?_eq_getElem hi'] at hj1 h3
      simp at hj1 h3
      rw [hj1] at h3; cases h3
    cases fuel with
    | zero => exact ⟨hr, h⟩
    | succ f => exact ⟨fun _ => h, fun i hi => by rw [hr] at hi; cases hi⟩
  | cons o l ih =>
    intro k fuel listed a w hl hk hs h1 h2 hf h
    have h0 : ops[k]? = some o := by simpa using (hl 0).symm
    have hkn := (Array.getElem?_eq_some_iff.1 h0).1
    obtain ⟨f, rfl⟩ : ∃ f, fuel = f + 1 := ⟨fuel - 1, by simp at hf; omega⟩
    refine ⟨fun hr => ?_, fun i hi => ?_⟩
    · exfalso
      have hm : k ∈ Region.ready .any ops listed := by
        rw [mem_ready]
        exact ⟨h2 k (Nat.le_refl _) hkn, o, h0, fun e he _ => h1 e.on (hback k o h0 e he) (by have := hback k o h0 e he; omega)⟩
      rw [hr] at hm
      cases hm
    · rw [mem_ready] at hi
      obtain ⟨hi1, o', ho', haf⟩ := hi
      have hin := (Array.getElem?_eq_some_iff.1 ho').1
      have hik : i = k := by
        rcases Nat.lt_trichotomy i k with hlt | rfl | hgt
        · exfalso
          have h3 := h1 i hlt hin
          have hi' : i < listed.size := by omega
          rw [Array.getD_eq_getD_getElem?, Array.getElem?_eq_getElem hi'] at hi1 h3
          simp at hi1 h3
          rw [hi1] at h3; cases h3
        · rfl
        · exfalso
          have hC : ∀ j o, ops[j]? = some o → listed.getD j false = true → ∀ e ∈ o.after, Region.binds .any e = true → listed.getD e.on false = true := fun j oj hj hjl e he _ => by
            have hjn := (Array.getElem?_eq_some_iff.1 hj).1
            have hjk : j < k := by
              rcases Nat.lt_or_ge j k with h | h
              · exact h
              · exfalso
                have h4 := h2 j h hjn
                have hi' : j < listed.size := by omega
                rw [Array.getD_eq_getD_getElem?, Array.getElem?_eq_getElem hi'] at hjl h4
                simp at hjl h4
                rw [hjl] at h4; cases h4
            have := hback j oj hj e he
            exact h1 e.on (by omega) (by omega)
          have h3 := reach_listed hC 9 i k o' ho' haf (htail i o' ho' (by omega) k hgt)
          have h4 := h2 k (Nat.le_refl _) hkn
          have hi' : k < listed.size := by omega
          rw [Array.getD_eq_getD_getElem?, Array.getElem?_eq_getElem hi'] at h3 h4
          simp at h3 h4
          rw [h3] at h4; cases h4
      subst hik
      have hw : wpOp P ops Q i (wpList P ops Q l) a w := by unfold wpOp; simp only [h0]; exact h
      refine wpOp_mono (fun a' w' h' => ih (i + 1) f _ a' w' (fun j => by have := hl (j + 1); simpa [Nat.add_assoc, Nat.add_comm 1 j] using this) (by omega) (by simpa using hs) (fun j hj hjn => ?_) (fun j hj hjn => ?_) (by simp at hf; omega) h') hw
      · rw [Array.getD_eq_getD_getElem?, Array.getElem?_setIfInBounds]
        by_cases hji : i = j
        · subst hji; simp [show i < listed.size by omega]
        · rw [if_neg hji]
          have := h1 j (by omega) hjn
          rwa [Array.getD_eq_getD_getElem?] at this
      · rw [Array.getD_eq_getD_getElem?, Array.getElem?_setIfInBounds, if_neg (by omega)]
        have := h2 j (by omega) hjn
        rwa [Array.getD_eq_getD_getElem?] at this
theorem wpAny_midT (m : Nat) (hmn : m ≤ ops.size) (hnd : (dsts ops).Nodup) (hlt : ∀ d ∈ dsts ops, d < a0.tmps.size) (hback : ∀ (i : Nat) (o : Oper), ops[i]? = some o → ∀ e ∈ o.after, e.on < i)
    (htail : ∀ (i : Nat) (o : Oper), ops[i]? = some o → m ≤ i → ∀ k, k < i → reachB ops 9 i k = true)
    (hst : ∀ i v w w', Below w0.heap.size w0 w → Below w.heap.size w w' → Pr i v w → Pr i v w')
    (hop : ∀ i o a w, i < m → ops[i]? = some o → Mid ops Pr a0 w0 a w → (∀ e ∈ o.after, Region.binds .any e = true → Done ops Pr e.on a w) →
      Region.wanted o (yielded ops a.tmps) = true ∧ o.wp P a w (fun a' w' => ∃ v, a' = a.put o.dst v ∧ Pr i v w' ∧ Below w.heap.size w w') Q)
    (hend : ∀ a w, Mid ops Pr a0 w0 a w → (∀ s, (∃ (i : Nat) (o : Oper), m ≤ i ∧ ops[i]? = some o ∧ o.dst = some s) → a.tmps.getD s undef = a0.tmps.getD s undef) → (∀ i, i < m → Done ops Pr i a w) → wpList P ops Q (ops.toList.drop m) a w) :
    ∀ (fuel : Nat) (listed : Array Bool) (a : Act) (w : World), listed.size = ops.size → listed.toList.count false ≤ fuel → (∀ i, m ≤ i → i < ops.size → listed.getD i true = false) → (∀ j o, ops[j]? = some o → listed.getD j false = true → ∀ e ∈ o.after, Region.binds .any e = true → listed.getD e.on false = true) → Mid ops Pr a0 w0 a w → (∀ s, (∃ (i : Nat) (o : Oper), m ≤ i ∧ ops[i]? = some o ∧ o.dst = some s) → a.tmps.getD s undef = a0.tmps.getD s undef) →
      (∀ i, listed.getD i false = true → Done ops Pr i a w) → wpAny P .any ops Q fuel listed a w := by
  intro fuel
  induction fuel with
  | zero =>
    intro listed a w hs hc hT hC hM hU hD
    have hc0 : listed.toList.count false = 0 := by omega
    have hall : ∀ i, i < ops.size → listed.getD i false = true := by
      intro i hi
      cases h : listed.getD i false with
      | true => rfl
      | false =>
        exfalso
        have hi' : i < listed.size := by omega
        rw [Array.getD_eq_getD_getElem?, Array.getElem?_eq_getElem hi'] at h
        have : false ∈ listed.toList := by
          rw [← h]; simp
        have := List.count_pos_iff.2 this
        omega
    have hmn2 : m = ops.size := by
      rcases Nat.lt_or_ge m ops.size with h | h
      · exfalso
        have h1 := hT m (Nat.le_refl _) h
        have h2 := hall m h
        have hi' : m < listed.size := by omega
        rw [Array.getD_eq_getD_getElem?, Array.getElem?_eq_getElem hi'] at h1 h2
        simp at h1 h2
        rw [h1] at h2; cases h2
      · omega
    refine wpAny_tail m hback htail (ops.toList.drop m) m 0 listed a w (fun j => by rw [List.getElem?_drop]; simp) (Nat.le_refl _) hs (fun i hi hin => hall i hin) hT (by simp; omega) (hend a w hM hU fun i hi => hD i (hall i (by omega)))
  | succ fuel ih =>
    intro listed a w hs hc hT hC hM hU hD
    by_cases hall : ∀ k, k < m → listed.getD k false = true
    · refine wpAny_tail m hback htail (ops.toList.drop m) m (fuel + 1) listed a w (fun j => by rw [List.getElem?_drop]; simp) (Nat.le_refl _) hs (fun i hi hin => hall i hi) hT ?_ (hend a w hM hU fun i hi => hD i (hall i hi))
      have h1 : (listed.toList.drop m).count false ≤ listed.toList.count false := (List.drop_sublist m _).count_le _
      have h2 : (listed.toList.drop m).count false = (listed.toList.drop m).length := by
        refine List.count_eq_length.2 fun b hb => ?_
        obtain ⟨j, hj⟩ := List.mem_iff_getElem?.1 hb
        rw [List.getElem?_drop] at hj
        have hj2 := (List.getElem?_eq_some_iff.1 hj).1
        have h3 := hT (m + j) (by omega) (by simp at hj2; omega)
        rw [Array.getD_eq_getD_getElem?] at h3
        have h4 : listed[m + j]? = some b := by simpa using hj
        rw [h4] at h3
        exact h3.symm
      simp only [List.length_drop, Array.length_toList] at h2 ⊢
      omega
    · refine ⟨fun hr => absurd (fun k hk => all_listed hback hs hr k (by omega)) hall, fun i hi => ?_⟩
      rw [mem_ready] at hi
      obtain ⟨h1, o, ho, haf⟩ := hi
      have hlt' := (Array.getElem?_eq_some_iff.1 ho).1
      have hi' : i < listed.size := by omega
      have him : i < m := by
        rcases Nat.lt_or_ge i m with h | h
        · exact h
        · exfalso
          refine hall fun k hk => ?_
          exact reach_listed hC 9 i k o ho haf (htail i o ho h k (by omega))
      obtain ⟨hw, hwp⟩ := hop i o a w him ho hM fun e he hb => hD e.on (haf e he hb)
      unfold wpOp
      rw [ho]
      simp only [hw, if_true]
      refine .inl (Oper.wp_mono ?_ hwp)
      rintro a' w' ⟨v, rfl, hv, hbl⟩
      have hbl0 : Below w0.heap.size w0 w' := hM.below.trans (hbl.mono hM.below.size)
      refine ih _ _ _ (by simpa using hs) ?_ (fun j hj hjn => ?_) (fun j oj hoj hjl e he hb => ?_) ⟨?_, ?_, hbl0, ?_⟩ ?_ ?_
      · have hf : listed.toList[i]'(by simpa using hi') = false := by
          rw [Array.getD_eq_getD_getElem?, Array.getElem?_eq_getElem hi'] at h1
          simpa using h1
        have : (listed.setIfInBounds i true).toList = listed.toList.set i true := by simp
        rw [this, List.count_set (by simpa using hi'), hf]
        have hpos : 0 < listed.toList.count false := List.count_pos_iff.2 (by rw [← hf]; exact List.getElem_mem _)
        have e1 : ((false == false) = true) := rfl
        have e2 : ¬ ((true == false) = true) := by decide
        rw [if_pos e1, if_neg e2]
        omega
      · rw [Array.getD_eq_getD_getElem?, Array.getElem?_setIfInBounds, if_neg (by omega)]
        have := hT j hj hjn
        rwa [Array.getD_eq_getD_getElem?] at this
      · have hset : ∀ k, (listed.setIfInBounds i true).getD k false = if k = i then true else listed.getD k false := by
          intro k
          rw [Array.getD_eq_getD_getElem?, Array.getElem?_setIfInBounds, Array.getD_eq_getD_getElem?]
          by_cases hk : k = i
          · subst hk; simp [hi']
          · have : ¬ i = k := fun e => hk e.symm
            simp [hk, this]
        rw [hset] at hjl ⊢
        by_cases hei : e.on = i
        · rw [if_pos hei]
        · rw [if_neg hei]
          by_cases hji : j = i
          · subst hji
            obtain rfl : oj = o := Option.some.inj (hoj.symm.trans ho)
            exact haf e he hb
          · rw [if_neg hji] at hjl
            exact hC j oj hoj hjl e he hb
      · rw [put_size]; exact hM.tmps
      · rw [put_defers']; exact hM.defers
      · intro s hsd
        rw [put_getD_ne (fun e => hsd (mem_dsts ho e))]
        exact hM.other s hsd
      · rintro s ⟨j, o', hj, ho', hd⟩
        rw [put_getD_ne (fun e => by have := dst_inj hnd ho ho' e hd; omega)]
        exact hU s ⟨j, o', hj, ho', hd⟩
      · intro j hj
        by_cases hji : j = i
        · subst hji
          intro o' d ho' hd
          obtain rfl : o' = o := Option.some.inj (ho'.symm.trans ho)
          rw [hd, put_getD_eq (by rw [hM.tmps]; exact hlt d (mem_dsts ho hd))]
          exact hv
        · have hj2 : listed.getD j false = true := by
            rw [Array.getD_eq_getD_getElem?, Array.getElem?_setIfInBounds] at hj
            have : ¬ i = j := fun e => hji e.symm
            simp only [this, if_false] at hj
            rw [Array.getD_eq_getD_getElem?]
            exact hj
          intro o' d ho' hd
          rw [put_getD_ne (fun e => hji (dst_inj hnd ho' ho hd e))]
          exact hst j _ w w' hM.below hbl (hD j hj2 o' d ho' hd)
def tailOk (ops : Array Oper) (m : Nat) : Bool :=
  decide (m ≤ ops.size) && (List.range ops.size).all fun i => decide (i < m) || (List.range i).all fun k => reachB ops 9 i k
theorem wp_region_midT {id N : Nat} (m : Nat) (Pr : Nat → Value → World → Prop) (hm : P.follows .mixedOrders = true) (hok : regionOk ops N = true) (htl : tailOk ops m = true) (hN : a0.tmps.size = N)
    (hst : ∀ i v w w', Below w0.heap.size w0 w → Below w.heap.size w w' → Pr i v w → Pr i v w')
    (hop : ∀ i o a w, i < m → ops[i]? = some o → Mid ops Pr a0 w0 a w → (∀ j, (o.after.any fun e => e.on == j && Region.binds .any e) = true → Done ops Pr j a w) →
      Region.wanted o (yielded ops a.tmps) = true ∧ o.wp P a w (fun a' w' => ∃ v, a' = a.put o.dst v ∧ Pr i v w' ∧ Below w.heap.size w w') Q)
    (hend : ∀ a w, Mid ops Pr a0 w0 a w → (∀ s, (∃ (i : Nat) (o : Oper), m ≤ i ∧ ops[i]? = some o ∧ o.dst = some s) → a.tmps.getD s undef = a0.tmps.getD s undef) → (∀ i, i < m → Done ops Pr i a w) → wpList P ops Q (ops.toList.drop m) a w) :
    (Code.region id ops true).wp P Q a0 w0 := by
  have hok' := hok
  simp only [regionOk, Bool.and_eq_true, decide_eq_true_eq] at hok'
  simp only [tailOk, Bool.and_eq_true, decide_eq_true_eq] at htl
  have htail : ∀ (i : Nat) (o : Oper), ops[i]? = some o → m ≤ i → ∀ k, k < i → reachB ops 9 i k = true := fun i o ho hi k hk => by
    have h1 := List.all_eq_true.1 htl.2 i (by simpa using (Array.getElem?_eq_some_iff.1 ho).1)
    rw [Bool.or_eq_true] at h1
    have h2 := h1.resolve_left (by simp; omega)
    exact List.all_eq_true.1 h2 k (by simpa using hk)
  refine wp_region_any hm (wpAny_midT m htl.1 hok'.1.1 (fun d hd => by rw [hN]; simpa using (List.all_eq_true.1 hok'.1.2) d hd) (regionOk_back hok) htail hst (fun i o a w hi ho hM hD => hop i o a w hi ho hM fun j hj => ?_) hend _ _ _ _ (by simp) ?_ (fun i _ hin => by simp [hin]) (fun j oj hj hjl => ?_) ⟨rfl, rfl, below_drew1 w0, fun _ _ => rfl⟩ (fun _ _ => rfl) ?_)
  · rw [← Array.any_toList, List.any_eq_true] at hj
    obtain ⟨e, he, hj⟩ := hj
    have he := Array.mem_toList_iff.1 he
    simp only [Bool.and_eq_true, beq_iff_eq] at hj
    rw [← hj.1]
    exact hD e he hj.2
  · simp
  · exfalso
    rw [Array.getD_eq_getD_getElem?, Array.getElem?_replicate] at hjl
    split at hjl <;> simp at hjl
  · intro i hi
    exfalso
    rw [Array.getD_eq_getD_getElem?, Array.getElem?_replicate] at hi
    split at hi <;> simp at hi
end
end Go.Proofs.YtiiiklenhmhccaaGreatDoor
