/-
  Layer 13: is a graph the document's, as far as a node, another one, and an edge are asked: the statements' is.
-/
import Derived.Test.YtopecdkkmbpnbaaGoe
import Derived.Test.YtopecdkkmbpnbaaGrk
import Derived.Deep.CutBlock
import Derived.Deep.CutRange
namespace Go.Proofs.Ytopecdkkmbpnbaa
open Go Go.RowKit Go.Maps
set_option linter.unusedVariables false

theorem rd_cells1 {w : World} {h n : Nat} {cs : Array Value} {T : TypeId} {l : List Ed} (hh : w.heap[h]? = some (.cells cs T (0, 0))) (hc : cs.toList = ec l) (hn : l.length = n) : Rd w w.heap.size 3 (some ⟨h, 0, none⟩) n (ec l) :=
  ⟨by rw [ec_length, hn], fun _ => ⟨⟨h, 0, none⟩, rfl, (Array.getElem?_eq_some_iff.1 hh).1, fun j u hu => by
    have h1 := cell_of_row _ _ j _ _ _ hh
    rw [show cs[j]? = (ec l)[j]? by rw [← hc, Array.getElem?_toList]] at h1
    have h2 : (⟨h, 0, none⟩ : Addr).add j = ⟨h, j, none⟩ := by simp [Addr.add]; exact fun h => h.symm
    rw [h2, h1, hu]⟩⟩
/-- The document's edge, in a row of the call's own. -/
def OneE (w : World) (base g c : Nat) (a : Ed) : Prop := w.ownsRow base 48 3 (.slice (some ⟨g, 0, none⟩) 1 c) 1 (ec [a])
theorem OneE.below {w w' : World} {base g c : Nat} {a : Ed} (h : OneE w base g c a) (hb : Below w.heap.size w w') : OneE w' base g c a := own_below h hb (own_lt h)
theorem OneE.at0 {w : World} {base g c : Nat} {a : Ed} (h : OneE w base g c a) : w.cell? ⟨g, 0, none⟩ = some (.int .i64 a.1) ∧ w.cell? ⟨g, 1, none⟩ = some (.int .i64 a.2.1) ∧ w.cell? ⟨g, 2, none⟩ = some (.int .i64 a.2.2) := by
  obtain ⟨b0, o0, e, _, c0, c1, c2⟩ := e_at (Rd.own h) (i := 0) (by decide)
  simp only [Option.some.injEq, Addr.mk.injEq, and_true] at e
  obtain ⟨rfl, rfl⟩ := e
  exact ⟨c0, c1, c2⟩
theorem one_edge {w : World} {h base : Nat} {T : TypeId} {a : Ed} (hh : w.heap[h]? = some (.cells #[.int .i64 a.1, .int .i64 a.2.1, .int .i64 a.2.2] T (0, 0))) (hb : base ≤ w.heap.size) :
    Calls Try.prog 15 #[.slice (some ⟨h, 0, none⟩) 1 1] w (fun r w' => (∃ g c, r = .returned (.slice (some ⟨g, 0, none⟩) 1 c) ∧ OneE w' base g c a) ∧ Below w.heap.size w w') := by
  refine (redges_any (c := 1) (rd_cells1 (l := [a]) hh rfl rfl) (Nat.le_refl _) (by simp)).mono ?_
  rintro r w' ⟨A, c, rfl, ho, hb'⟩
  obtain ⟨g, cap, e⟩ : ∃ g cap, Value.slice A 1 c = .slice (some ⟨g, 0, none⟩) 1 cap := by
    rcases ho.2 with ⟨_, h0⟩ | ⟨g, cap, cur, e, _⟩
    · cases h0
    · exact ⟨g, cap, e⟩
  injection e with e1 e2 e3
  subst e1
  exact ⟨⟨g, c, rfl, own_mono' ho hb⟩, hb'⟩

/-- A row that the call may write over: so many cells, in a block of its own. -/
def WRow (lo : Nat) (V : World) (A : Option Addr) (m : Nat) : Prop := m = 0 ∨ ∃ (g : Nat) (cur : Array Value) (T : TypeId), A = some ⟨g, 0, none⟩ ∧ lo ≤ g ∧ V.heap[g]? = some (.cells cur T (0, 0)) ∧ m ≤ cur.size
theorem WRow.of_own {V : World} {b n size c : Nat} {E : TypeId} {A : Option Addr} {xs : List Value} (h : V.ownsRow b E size (.slice A n c) n xs) : WRow b V A (n * size) := by
  rcases h.2 with ⟨h1, h2⟩ | ⟨g, cap, cur, h1, h2, h3, h4, h5, h6, h7⟩
  · exact .inl (by rw [h2]; omega)
  · injection h1 with h1 _ h8
    exact .inr ⟨g, cur, E, h1, h2, h3, by rw [h6]; exact Nat.mul_le_mul_right _ h4⟩
theorem WRow.mono {lo lo' m : Nat} {V : World} {A : Option Addr} (h : WRow lo V A m) (hl : lo' ≤ lo) : WRow lo' V A m := h.imp id fun ⟨g, cur, T, h1, h2, h3, h4⟩ => ⟨g, cur, T, h1, Nat.le_trans hl h2, h3, h4⟩
theorem WRow.below {lo m : Nat} {V V' : World} {A : Option Addr} (h : WRow lo V A m) (hb : Below V.heap.size V V') : WRow lo V' A m := h.imp id fun ⟨g, cur, T, h1, h2, h3, h4⟩ => ⟨g, cur, T, h1, h2, (hb.block g (Array.getElem?_eq_some_iff.1 h3).1).trans h3, h4⟩
theorem WRow.set {lo m g i : Nat} {V : World} {A : Option Addr} (h : WRow lo V A m) (u : Value) : WRow lo (V.setCell ⟨g, i, none⟩ u) A m := h.imp id fun ⟨g', cur, T, h1, h2, h3, h4⟩ => by
  by_cases e : g' = g
  · subst e
    exact ⟨g', _, T, h1, h2, heap_setCell_same _ g' i _ _ _ h3, by simpa using h4⟩
  · exact ⟨g', cur, T, h1, h2, (heap_setCell_other _ ⟨g, i, none⟩ g' _ e).trans h3, h4⟩
theorem WRow.at_ {lo m k : Nat} {V : World} {A : Option Addr} (h : WRow lo V A m) (hk : k < m) : ∃ (g : Nat) (v : Value), A = some ⟨g, 0, none⟩ ∧ lo ≤ g ∧ V.cell? ⟨g, k, none⟩ = some v ∧ V.frozen? ⟨g, k, none⟩ = false := by
  rcases h with h | ⟨g, cur, T, h1, h2, h3, h4⟩
  · omega
  · exact ⟨g, cur[k]'(by omega), h1, h2, (cell_of_row _ _ k _ _ _ h3).trans (Array.getElem?_eq_getElem (by omega)), frozen_of_row _ _ k _ _ h3⟩

set_option maxRecDepth 100000 in
set_option maxHeartbeats 12800000 in
theorem is_any {w : World} {p N B c : Nat} {S : Nat → Prop} {A : Option Addr} {L : List Ed} (h : GmIs w p S N L) (hr : Rd w B 3 A L.length (ec L)) (hB : B ≤ w.heap.size) (hN : N ≤ 65536) (hL : L.length ≤ 1000) (n m : Int) (x : Ed) (hx : EdOk x) :
    Calls Try.prog 19 #[.pointer (some ⟨p, 0, none⟩), .agg #[.int .i64 (N : Int), .slice A L.length c], .int .i64 n, .int .i64 m, eV x] w fun e w' => e = .returned (.bool true) ∧ Below w.heap.size w w' := by
  obtain ⟨x1, x2, x3⟩ := x
  have HXO := Lib_hid hx
  have b1 := below_new w (.cells #[.int .i64 (N : Int), .slice A L.length c] 31)
  have y1 := heap_alloc_new w (.cells #[.int .i64 (N : Int), .slice A L.length c] 31)
  have z1 : (w.alloc (.cells #[.int .i64 (N : Int), .slice A L.length c] 31)).heap.size = w.heap.size + 1 := by simp
  obtain ⟨wa, hwa⟩ : ∃ wa, wa = w.alloc (.cells #[.int .i64 (N : Int), .slice A L.length c] 31) := ⟨_, rfl⟩
  rw [← hwa] at b1 y1 z1
  have b2 := below_new wa (.cells #[.int .i64 x1, .int .i64 x2, .int .i64 x3] 39)
  have y2 := heap_alloc_new wa (.cells #[.int .i64 x1, .int .i64 x2, .int .i64 x3] 39)
  obtain ⟨W, hW⟩ : ∃ W, W = wa.alloc (.cells #[.int .i64 x1, .int .i64 x2, .int .i64 x3] 39) := ⟨_, rfl⟩
  rw [← hW] at b2 y2
  rw [z1] at y2
  have hbW := b1.trans (b2.mono b1.size)
  have KB : Hid (∀ V : World, Below W.heap.size W V → (V.cell? ⟨w.heap.size, 0, none⟩ = some (.int .i64 (N : Int)) ∧ V.cell? ⟨w.heap.size, 1, none⟩ = some (.slice A L.length c)) ∧ V.cell? ⟨w.heap.size + 1, 0, none⟩ = some (.int .i64 x1) ∧ V.cell? ⟨w.heap.size + 1, 1, none⟩ = some (.int .i64 x2) ∧ V.cell? ⟨w.heap.size + 1, 2, none⟩ = some (.int .i64 x3)) := fun V hV => by
    have hy1 := (b2.block _ (Array.getElem?_eq_some_iff.1 y1).1).trans y1
    have h1 := (hV.block _ (Array.getElem?_eq_some_iff.1 hy1).1).trans hy1
    have h2 := (hV.block _ (Array.getElem?_eq_some_iff.1 y2).1).trans y2
    exact ⟨⟨cell_of_row _ _ 0 _ _ _ h1, cell_of_row _ _ 1 _ _ _ h1⟩, cell_of_row _ _ 0 _ _ _ h2, cell_of_row _ _ 1 _ _ _ h2, cell_of_row _ _ 2 _ _ _ h2⟩
  have HBW : Hid (∀ V : World, Below W.heap.size W V → Below w.heap.size w V) := fun V hV => hbW.trans (hV.mono hbW.size)
  have GX : Hid (∀ V : World, Below W.heap.size W V → GmIs V p S N L ∧ Rd V B 3 A L.length (ec L) ∧ B ≤ V.heap.size) := fun V hV => ⟨h.later (HBW.out V hV), hr.below ((HBW.out V hV).mono hB), Nat.le_trans hB (HBW.out V hV).size⟩
  have HLN : Hid (L.length ≤ 1000000) := by unfold Hid; omega
  have HN := Lib_hid hN
  have HSR := Lib_hid h.srt
  have HED := Lib_hid h.eds
  clear b1 b2 y1 y2 z1 hbW h hr hB hN hx
  unfold eV
  go_enter Try.func19, Try.ntmps19
  go_upto_region 1 with (fail)
  rw [← hwa, ← hW]
  clear hwa hW
  refine wp_region_midT (N := 159) 26 (fun i v ww => ([fun v ww => v = .pointer (some ⟨p, 0, none⟩), fun v ww => v = .int .i64 (N : Int), fun v ww => v = .pointer (some ⟨w.heap.size, 0, none⟩), fun v ww => v = .int .i64 (N : Int), fun v ww => v = .bool false, fun v ww => v = .bool false, fun v ww => v = .pointer (some ⟨p, 0, none⟩), fun v ww => v = .int .i64 (L.length : Int), fun v ww => v = .pointer (some ⟨w.heap.size, 1, none⟩), fun v ww => v = .slice A L.length c, fun v ww => v = .int .i64 (L.length : Int), fun v ww => v = .bool false, fun v ww => v = .bool false, fun v ww => v = .bool false, fun v ww => v = .pointer (some ⟨p, 0, none⟩), fun v ww => v = .agg #[.int .i64 x1, .int .i64 x2, .int .i64 x3], fun v ww => v = .bool (decide ((x1, x2, x3) ∈ L)), fun v ww => v = .agg #[.int .i64 (N : Int), .slice A L.length c], fun v ww => v = .agg #[.int .i64 x1, .int .i64 x2, .int .i64 x3], fun v ww => ∃ h, v = .slice (some ⟨h, 0, none⟩) 1 1 ∧ ww.heap[h]? = some (.cells #[.int .i64 x1, .int .i64 x2, .int .i64 x3] 39 (0, 0)), fun v ww => ∃ g c5, v = .slice (some ⟨g, 0, none⟩) 1 c5 ∧ OneE ww 0 g c5 (x1, x2, x3), fun v ww => ∃ g c5, v = .pointer (some ⟨g, 0, none⟩) ∧ OneE ww 0 g c5 (x1, x2, x3), fun v ww => v = .agg #[.int .i64 x1, .int .i64 x2, .int .i64 x3], fun v ww => v = .bool (decide ((x1, x2, x3) ∈ L)), fun v ww => v = .bool false, fun v ww => v = .bool false] : List (Value → World → Prop)).getD i (fun _ _ => True) v ww) (by kernel_rfl) (by kernel_rfl) (by kernel_rfl) rfl ?_ ?_ ?_
  · intro i v wa wb h0 hb hp
    by_cases hi : i < 26
    · have hcase : i = 0 ∨ i = 1 ∨ i = 2 ∨ i = 3 ∨ i = 4 ∨ i = 5 ∨ i = 6 ∨ i = 7 ∨ i = 8 ∨ i = 9 ∨ i = 10 ∨ i = 11 ∨ i = 12 ∨ i = 13 ∨ i = 14 ∨ i = 15 ∨ i = 16 ∨ i = 17 ∨ i = 18 ∨ i = 19 ∨ i = 20 ∨ i = 21 ∨ i = 22 ∨ i = 23 ∨ i = 24 ∨ i = 25 := by omega
      rcases hcase with rfl | rfl | rfl | rfl | rfl | rfl | rfl | rfl | rfl | rfl | rfl | rfl | rfl | rfl | rfl | rfl | rfl | rfl | rfl | rfl | rfl | rfl | rfl | rfl | rfl | rfl
      · exact hp
      · exact hp
      · exact hp
      · exact hp
      · exact hp
      · exact hp
      · exact hp
      · exact hp
      · exact hp
      · exact hp
      · exact hp
      · exact hp
      · exact hp
      · exact hp
      · exact hp
      · exact hp
      · exact hp
      · exact hp
      · exact hp
      · obtain ⟨h, e, hh⟩ := hp
        exact ⟨h, e, (hb.block h (Array.getElem?_eq_some_iff.1 hh).1).trans hh⟩
      · obtain ⟨g, c5, e, ho⟩ := hp
        exact ⟨g, c5, e, ho.below hb⟩
      · obtain ⟨g, c5, e, ho⟩ := hp
        exact ⟨g, c5, e, ho.below hb⟩
      · exact hp
      · exact hp
      · exact hp
      · exact hp
    · have hnn : ([fun v ww => v = .pointer (some ⟨p, 0, none⟩), fun v ww => v = .int .i64 (N : Int), fun v ww => v = .pointer (some ⟨w.heap.size, 0, none⟩), fun v ww => v = .int .i64 (N : Int), fun v ww => v = .bool false, fun v ww => v = .bool false, fun v ww => v = .pointer (some ⟨p, 0, none⟩), fun v ww => v = .int .i64 (L.length : Int), fun v ww => v = .pointer (some ⟨w.heap.size, 1, none⟩), fun v ww => v = .slice A L.length c, fun v ww => v = .int .i64 (L.length : Int), fun v ww => v = .bool false, fun v ww => v = .bool false, fun v ww => v = .bool false, fun v ww => v = .pointer (some ⟨p, 0, none⟩), fun v ww => v = .agg #[.int .i64 x1, .int .i64 x2, .int .i64 x3], fun v ww => v = .bool (decide ((x1, x2, x3) ∈ L)), fun v ww => v = .agg #[.int .i64 (N : Int), .slice A L.length c], fun v ww => v = .agg #[.int .i64 x1, .int .i64 x2, .int .i64 x3], fun v ww => ∃ h, v = .slice (some ⟨h, 0, none⟩) 1 1 ∧ ww.heap[h]? = some (.cells #[.int .i64 x1, .int .i64 x2, .int .i64 x3] 39 (0, 0)), fun v ww => ∃ g c5, v = .slice (some ⟨g, 0, none⟩) 1 c5 ∧ OneE ww 0 g c5 (x1, x2, x3), fun v ww => ∃ g c5, v = .pointer (some ⟨g, 0, none⟩) ∧ OneE ww 0 g c5 (x1, x2, x3), fun v ww => v = .agg #[.int .i64 x1, .int .i64 x2, .int .i64 x3], fun v ww => v = .bool (decide ((x1, x2, x3) ∈ L)), fun v ww => v = .bool false, fun v ww => v = .bool false] : List (Value → World → Prop))[i]? = none := List.getElem?_eq_none (by simpa using hi)
      rw [List.getD_eq_getElem?_getD, hnn]
      trivial
  · intro i o a wx hi8 hi hM hD
    have hcase : i = 0 ∨ i = 1 ∨ i = 2 ∨ i = 3 ∨ i = 4 ∨ i = 5 ∨ i = 6 ∨ i = 7 ∨ i = 8 ∨ i = 9 ∨ i = 10 ∨ i = 11 ∨ i = 12 ∨ i = 13 ∨ i = 14 ∨ i = 15 ∨ i = 16 ∨ i = 17 ∨ i = 18 ∨ i = 19 ∨ i = 20 ∨ i = 21 ∨ i = 22 ∨ i = 23 ∨ i = 24 ∨ i = 25 := by omega
    clear hi8
    rcases hcase with rfl | rfl | rfl | rfl | rfl | rfl | rfl | rfl | rfl | rfl | rfl | rfl | rfl | rfl | rfl | rfl | rfl | rfl | rfl | rfl | rfl | rfl | rfl | rfl | rfl | rfl
    · obtain rfl := Option.some.inj hi
      have e0 : a.tmps.getD 0 undef = .pointer (some ⟨p, 0, none⟩) := (hM.other 0 (by decide +kernel)).trans rfl
      refine ⟨rfl, mid_step (.pointer (some ⟨p, 0, none⟩)) wx (fun K hK => ?_) ⟨_, rfl, rfl, Below.refl _ _⟩⟩
      go_simp
      exact hK
    · obtain rfl := Option.some.inj hi
      have e24 : a.tmps.getD 24 undef = .pointer (some ⟨p, 0, none⟩) := hD 0 (by kernel_rfl) _ 24 rfl rfl
      refine ⟨rfl, mid_call (fun v w' => v = .int .i64 (N : Int) ∧ Below wx.heap.size wx w') (fun K hK => ?_) (fun v w' h => ⟨v, rfl, h.1, h.2⟩)⟩
      go_simp
      refine (plen_any (GX.out _ hM.below).1).mono ?_
      rintro e w' ⟨rfl, rfl⟩
      exact hK _ _ ⟨rfl, Below.refl _ _⟩
    · obtain rfl := Option.some.inj hi
      have e6 : a.tmps.getD 6 undef = .pointer (some ⟨w.heap.size, 0, none⟩) := (hM.other 6 (by decide +kernel)).trans rfl
      refine ⟨rfl, mid_step (.pointer (some ⟨w.heap.size, 0, none⟩)) wx (fun K hK => ?_) ⟨_, rfl, rfl, Below.refl _ _⟩⟩
      go_simp
      exact hK
    · obtain rfl := Option.some.inj hi
      have e26 : a.tmps.getD 26 undef = .pointer (some ⟨w.heap.size, 0, none⟩) := hD 2 (by kernel_rfl) _ 26 rfl rfl
      obtain ⟨⟨q0, q1⟩, k0, k1, k2⟩ := KB.out _ hM.below
      refine ⟨rfl, mid_step (.int .i64 (N : Int)) wx (fun K hK => ?_) ⟨_, rfl, rfl, Below.refl _ _⟩⟩
      go_simp
      exact hK
    · obtain rfl := Option.some.inj hi
      have e25 : a.tmps.getD 25 undef = .int .i64 (N : Int) := hD 1 (by kernel_rfl) _ 25 rfl rfl
      have e27 : a.tmps.getD 27 undef = .int .i64 (N : Int) := hD 3 (by kernel_rfl) _ 27 rfl rfl
      refine ⟨rfl, mid_step (.bool false) wx (fun K hK => ?_) ⟨_, rfl, rfl, Below.refl _ _⟩⟩
      go_simp
      exact hK
    · obtain rfl := Option.some.inj hi
      have e28 : a.tmps.getD 28 undef = .bool false := hD 4 (by kernel_rfl) _ 28 rfl rfl
      refine ⟨rfl, mid_step (.bool false) wx (fun K hK => ?_) ⟨_, rfl, rfl, Below.refl _ _⟩⟩
      go_simp
      exact hK
    · obtain rfl := Option.some.inj hi
      have e29 : a.tmps.getD 29 undef = .bool false := hD 5 (by kernel_rfl) _ 29 rfl rfl
      have e0 : a.tmps.getD 0 undef = .pointer (some ⟨p, 0, none⟩) := (hM.other 0 (by decide +kernel)).trans rfl
      refine ⟨wanted_yes 5 29 rfl rfl rfl e29, mid_step (.pointer (some ⟨p, 0, none⟩)) wx (fun K hK => ?_) ⟨_, rfl, rfl, Below.refl _ _⟩⟩
      go_simp
      exact hK
    · obtain rfl := Option.some.inj hi
      have e29 : a.tmps.getD 29 undef = .bool false := hD 5 (by kernel_rfl) _ 29 rfl rfl
      have e30 : a.tmps.getD 30 undef = .pointer (some ⟨p, 0, none⟩) := hD 6 (by kernel_rfl) _ 30 rfl rfl
      refine ⟨wanted_yes 5 29 rfl rfl rfl e29, mid_call (fun v w' => v = .int .i64 (L.length : Int) ∧ Below wx.heap.size wx w') (fun K hK => ?_) (fun v w' h => ⟨v, rfl, h.1, h.2⟩)⟩
      go_simp
      refine (pmany_any (GX.out _ hM.below).1).mono ?_
      rintro e w' ⟨rfl, rfl⟩
      exact hK _ _ ⟨rfl, Below.refl _ _⟩
    · obtain rfl := Option.some.inj hi
      have e29 : a.tmps.getD 29 undef = .bool false := hD 5 (by kernel_rfl) _ 29 rfl rfl
      have e6 : a.tmps.getD 6 undef = .pointer (some ⟨w.heap.size, 0, none⟩) := (hM.other 6 (by decide +kernel)).trans rfl
      refine ⟨wanted_yes 5 29 rfl rfl rfl e29, mid_step (.pointer (some ⟨w.heap.size, 1, none⟩)) wx (fun K hK => ?_) ⟨_, rfl, rfl, Below.refl _ _⟩⟩
      go_simp
      exact hK
    · obtain rfl := Option.some.inj hi
      have e29 : a.tmps.getD 29 undef = .bool false := hD 5 (by kernel_rfl) _ 29 rfl rfl
      have e32 : a.tmps.getD 32 undef = .pointer (some ⟨w.heap.size, 1, none⟩) := hD 8 (by kernel_rfl) _ 32 rfl rfl
      obtain ⟨⟨q0, q1⟩, k0, k1, k2⟩ := KB.out _ hM.below
      refine ⟨wanted_yes 5 29 rfl rfl rfl e29, mid_step (.slice A L.length c) wx (fun K hK => ?_) ⟨_, rfl, rfl, Below.refl _ _⟩⟩
      go_simp
      exact hK
    · obtain rfl := Option.some.inj hi
      have e29 : a.tmps.getD 29 undef = .bool false := hD 5 (by kernel_rfl) _ 29 rfl rfl
      have e33 : a.tmps.getD 33 undef = .slice A L.length c := hD 9 (by kernel_rfl) _ 33 rfl rfl
      refine ⟨wanted_yes 5 29 rfl rfl rfl e29, mid_step (.int .i64 (L.length : Int)) wx (fun K hK => ?_) ⟨_, rfl, rfl, Below.refl _ _⟩⟩
      go_simp
      exact hK
    · obtain rfl := Option.some.inj hi
      have e29 : a.tmps.getD 29 undef = .bool false := hD 5 (by kernel_rfl) _ 29 rfl rfl
      have e31 : a.tmps.getD 31 undef = .int .i64 (L.length : Int) := hD 7 (by kernel_rfl) _ 31 rfl rfl
      have e34 : a.tmps.getD 34 undef = .int .i64 (L.length : Int) := hD 10 (by kernel_rfl) _ 34 rfl rfl
      refine ⟨wanted_yes 5 29 rfl rfl rfl e29, mid_step (.bool false) wx (fun K hK => ?_) ⟨_, rfl, rfl, Below.refl _ _⟩⟩
      go_simp
      exact hK
    · obtain rfl := Option.some.inj hi
      have e29 : a.tmps.getD 29 undef = .bool false := hD 5 (by kernel_rfl) _ 29 rfl rfl
      have e35 : a.tmps.getD 35 undef = .bool false := hD 11 (by kernel_rfl) _ 35 rfl rfl
      refine ⟨rfl, mid_step (.bool false) wx (fun K hK => ?_) ⟨_, rfl, rfl, Below.refl _ _⟩⟩
      go_simp
      exact hK
    · obtain rfl := Option.some.inj hi
      have e36 : a.tmps.getD 36 undef = .bool false := hD 12 (by kernel_rfl) _ 36 rfl rfl
      refine ⟨rfl, mid_step (.bool false) wx (fun K hK => ?_) ⟨_, rfl, rfl, Below.refl _ _⟩⟩
      go_simp
      exact hK
    · obtain rfl := Option.some.inj hi
      have e37 : a.tmps.getD 37 undef = .bool false := hD 13 (by kernel_rfl) _ 37 rfl rfl
      have e0 : a.tmps.getD 0 undef = .pointer (some ⟨p, 0, none⟩) := (hM.other 0 (by decide +kernel)).trans rfl
      refine ⟨wanted_yes 13 37 rfl rfl rfl e37, mid_step (.pointer (some ⟨p, 0, none⟩)) wx (fun K hK => ?_) ⟨_, rfl, rfl, Below.refl _ _⟩⟩
      go_simp
      exact hK
    · obtain rfl := Option.some.inj hi
      have e37 : a.tmps.getD 37 undef = .bool false := hD 13 (by kernel_rfl) _ 37 rfl rfl
      have e9 : a.tmps.getD 9 undef = .pointer (some ⟨w.heap.size + 1, 0, none⟩) := (hM.other 9 (by decide +kernel)).trans rfl
      obtain ⟨⟨q0, q1⟩, k0, k1, k2⟩ := KB.out _ hM.below
      refine ⟨wanted_yes 13 37 rfl rfl rfl e37, mid_step (.agg #[.int .i64 x1, .int .i64 x2, .int .i64 x3]) wx (fun K hK => ?_) ⟨_, rfl, rfl, Below.refl _ _⟩⟩
      go_simp
      exact hK
    · obtain rfl := Option.some.inj hi
      have e37 : a.tmps.getD 37 undef = .bool false := hD 13 (by kernel_rfl) _ 37 rfl rfl
      have e38 : a.tmps.getD 38 undef = .pointer (some ⟨p, 0, none⟩) := hD 14 (by kernel_rfl) _ 38 rfl rfl
      have e39 : a.tmps.getD 39 undef = .agg #[.int .i64 x1, .int .i64 x2, .int .i64 x3] := hD 15 (by kernel_rfl) _ 39 rfl rfl
      refine ⟨wanted_yes 13 37 rfl rfl rfl e37, mid_call (fun v w' => v = .bool (decide ((x1, x2, x3) ∈ L)) ∧ Below wx.heap.size wx w') (fun K hK => ?_) (fun v w' h => ⟨v, rfl, h.1, h.2⟩)⟩
      go_simp
      refine (phas_any (GX.out _ hM.below).1 HXO.out).mono ?_
      rintro e w' ⟨rfl, hb'⟩
      exact hK _ _ ⟨rfl, hb'⟩
    · obtain rfl := Option.some.inj hi
      have e37 : a.tmps.getD 37 undef = .bool false := hD 13 (by kernel_rfl) _ 37 rfl rfl
      have e6 : a.tmps.getD 6 undef = .pointer (some ⟨w.heap.size, 0, none⟩) := (hM.other 6 (by decide +kernel)).trans rfl
      obtain ⟨⟨q0, q1⟩, k0, k1, k2⟩ := KB.out _ hM.below
      refine ⟨wanted_yes 13 37 rfl rfl rfl e37, mid_step (.agg #[.int .i64 (N : Int), .slice A L.length c]) wx (fun K hK => ?_) ⟨_, rfl, rfl, Below.refl _ _⟩⟩
      go_simp
      exact hK
    · obtain rfl := Option.some.inj hi
      have e37 : a.tmps.getD 37 undef = .bool false := hD 13 (by kernel_rfl) _ 37 rfl rfl
      have e9 : a.tmps.getD 9 undef = .pointer (some ⟨w.heap.size + 1, 0, none⟩) := (hM.other 9 (by decide +kernel)).trans rfl
      obtain ⟨⟨q0, q1⟩, k0, k1, k2⟩ := KB.out _ hM.below
      refine ⟨wanted_yes 13 37 rfl rfl rfl e37, mid_step (.agg #[.int .i64 x1, .int .i64 x2, .int .i64 x3]) wx (fun K hK => ?_) ⟨_, rfl, rfl, Below.refl _ _⟩⟩
      go_simp
      exact hK
    · obtain rfl := Option.some.inj hi
      have e37 : a.tmps.getD 37 undef = .bool false := hD 13 (by kernel_rfl) _ 37 rfl rfl
      have e42 : a.tmps.getD 42 undef = .agg #[.int .i64 x1, .int .i64 x2, .int .i64 x3] := hD 18 (by kernel_rfl) _ 42 rfl rfl
      have f42 := e42
      rw [Array.getD_eq_getD_getElem?] at f42
      refine ⟨wanted_yes 13 37 rfl rfl rfl e37, mid_step (.slice (some ⟨wx.heap.size, 0, none⟩) 1 1) (wx.alloc (.cells #[.int .i64 x1, .int .i64 x2, .int .i64 x3] 39)) (fun K hK => ?_) ⟨_, rfl, ⟨_, rfl, heap_alloc_new _ _⟩, below_new _ _⟩⟩
      go_simp
      exact hK
    · obtain rfl := Option.some.inj hi
      have e37 : a.tmps.getD 37 undef = .bool false := hD 13 (by kernel_rfl) _ 37 rfl rfl
      obtain ⟨h, e43, hh⟩ := hD 19 (by kernel_rfl) _ 43 rfl rfl
      refine ⟨wanted_yes 13 37 rfl rfl rfl e37, mid_call (fun v w' => (∃ g c5, v = .slice (some ⟨g, 0, none⟩) 1 c5 ∧ OneE w' 0 g c5 (x1, x2, x3)) ∧ Below wx.heap.size wx w') (fun K hK => ?_) (fun v w' h => ⟨v, rfl, h.1, h.2⟩)⟩
      go_simp
      refine (one_edge (a := (x1, x2, x3)) hh (Nat.zero_le _)).mono ?_
      rintro e w' ⟨⟨g, c5, rfl, ho'⟩, hb'⟩
      exact hK _ _ ⟨⟨g, c5, rfl, ho'⟩, hb'⟩
    · obtain rfl := Option.some.inj hi
      have e37 : a.tmps.getD 37 undef = .bool false := hD 13 (by kernel_rfl) _ 37 rfl rfl
      obtain ⟨g, c5, e44, ho⟩ := hD 20 (by kernel_rfl) _ 44 rfl rfl
      refine ⟨wanted_yes 13 37 rfl rfl rfl e37, mid_step (.pointer (some ⟨g, 0, none⟩)) wx (fun K hK => ?_) ⟨_, rfl, ⟨g, c5, rfl, ho⟩, Below.refl _ _⟩⟩
      go_simp
      exact hK
    · obtain rfl := Option.some.inj hi
      have e37 : a.tmps.getD 37 undef = .bool false := hD 13 (by kernel_rfl) _ 37 rfl rfl
      obtain ⟨g, c5, e45, ho⟩ := hD 21 (by kernel_rfl) _ 45 rfl rfl
      obtain ⟨r0, r1, r2⟩ := ho.at0
      refine ⟨wanted_yes 13 37 rfl rfl rfl e37, mid_step (.agg #[.int .i64 x1, .int .i64 x2, .int .i64 x3]) wx (fun K hK => ?_) ⟨_, rfl, rfl, Below.refl _ _⟩⟩
      go_simp
      exact hK
    · obtain rfl := Option.some.inj hi
      have e37 : a.tmps.getD 37 undef = .bool false := hD 13 (by kernel_rfl) _ 37 rfl rfl
      have e41 : a.tmps.getD 41 undef = .agg #[.int .i64 (N : Int), .slice A L.length c] := hD 17 (by kernel_rfl) _ 41 rfl rfl
      have e46 : a.tmps.getD 46 undef = .agg #[.int .i64 x1, .int .i64 x2, .int .i64 x3] := hD 22 (by kernel_rfl) _ 46 rfl rfl
      refine ⟨wanted_yes 13 37 rfl rfl rfl e37, mid_call (fun v w' => v = .bool (decide ((x1, x2, x3) ∈ L)) ∧ Below wx.heap.size wx w') (fun K hK => ?_) (fun v w' h => ⟨v, rfl, h.1, h.2⟩)⟩
      go_simp
      refine (rhas_any (N : Int) (GX.out _ hM.below).2.1 (GX.out _ hM.below).2.2 (Nat.le_trans HLN.out (by decide)) (x1, x2, x3)).mono ?_
      rintro e w' ⟨rfl, hb'⟩
      exact hK _ _ ⟨rfl, hb'⟩
    · obtain rfl := Option.some.inj hi
      have e37 : a.tmps.getD 37 undef = .bool false := hD 13 (by kernel_rfl) _ 37 rfl rfl
      have e40 : a.tmps.getD 40 undef = .bool (decide ((x1, x2, x3) ∈ L)) := hD 16 (by kernel_rfl) _ 40 rfl rfl
      have e47 : a.tmps.getD 47 undef = .bool (decide ((x1, x2, x3) ∈ L)) := hD 23 (by kernel_rfl) _ 47 rfl rfl
      refine ⟨wanted_yes 13 37 rfl rfl rfl e37, mid_step (.bool false) wx (fun K hK => ?_) ⟨_, rfl, rfl, Below.refl _ _⟩⟩
      go_simp
      exact hK
    · obtain rfl := Option.some.inj hi
      have e37 : a.tmps.getD 37 undef = .bool false := hD 13 (by kernel_rfl) _ 37 rfl rfl
      have e48 : a.tmps.getD 48 undef = .bool false := hD 24 (by kernel_rfl) _ 48 rfl rfl
      refine ⟨rfl, mid_step (.bool false) wx (fun K hK => ?_) ⟨_, rfl, rfl, Below.refl _ _⟩⟩
      go_simp
      exact hK
  · intro a wx hM hU hD
    have q0 := hD 0 (by decide) _ 24 rfl rfl
    have q1 := hD 1 (by decide) _ 25 rfl rfl
    have q2 := hD 2 (by decide) _ 26 rfl rfl
    have q3 := hD 3 (by decide) _ 27 rfl rfl
    have q4 := hD 4 (by decide) _ 28 rfl rfl
    have q5 := hD 5 (by decide) _ 29 rfl rfl
    have q6 := hD 6 (by decide) _ 30 rfl rfl
    have q7 := hD 7 (by decide) _ 31 rfl rfl
    have q8 := hD 8 (by decide) _ 32 rfl rfl
    have q9 := hD 9 (by decide) _ 33 rfl rfl
    have q10 := hD 10 (by decide) _ 34 rfl rfl
    have q11 := hD 11 (by decide) _ 35 rfl rfl
    have q12 := hD 12 (by decide) _ 36 rfl rfl
    have q13 := hD 13 (by decide) _ 37 rfl rfl
    have q14 := hD 14 (by decide) _ 38 rfl rfl
    have q15 := hD 15 (by decide) _ 39 rfl rfl
    have q16 := hD 16 (by decide) _ 40 rfl rfl
    have q17 := hD 17 (by decide) _ 41 rfl rfl
    have q18 := hD 18 (by decide) _ 42 rfl rfl
    obtain ⟨h19, e19r, hh19⟩ := hD 19 (by decide) _ 43 rfl rfl
    have q19 : a.tmps.getD 43 undef = .slice (some ⟨h19, 0, none⟩) 1 1 := by assumption
    obtain ⟨g20, c20, e20r, ho20⟩ := hD 20 (by decide) _ 44 rfl rfl
    have q20 : a.tmps.getD 44 undef = .slice (some ⟨g20, 0, none⟩) 1 c20 := by assumption
    obtain ⟨g21, c21, e21r, ho21⟩ := hD 21 (by decide) _ 45 rfl rfl
    have q21 : a.tmps.getD 45 undef = .pointer (some ⟨g21, 0, none⟩) := by assumption
    have q22 := hD 22 (by decide) _ 46 rfl rfl
    have q23 := hD 23 (by decide) _ 47 rfl rfl
    have q24 := hD 24 (by decide) _ 48 rfl rfl
    have q25 := hD 25 (by decide) _ 49 rfl rfl
    have hact := act_puts (a := a) [(24, .pointer (some ⟨p, 0, none⟩)), (25, .int .i64 (N : Int)), (26, .pointer (some ⟨w.heap.size, 0, none⟩)), (27, .int .i64 (N : Int)), (28, .bool false), (29, .bool false), (30, .pointer (some ⟨p, 0, none⟩)), (31, .int .i64 (L.length : Int)), (32, .pointer (some ⟨w.heap.size, 1, none⟩)), (33, .slice A L.length c), (34, .int .i64 (L.length : Int)), (35, .bool false), (36, .bool false), (37, .bool false), (38, .pointer (some ⟨p, 0, none⟩)), (39, .agg #[.int .i64 x1, .int .i64 x2, .int .i64 x3]), (40, .bool (decide ((x1, x2, x3) ∈ L))), (41, .agg #[.int .i64 (N : Int), .slice A L.length c]), (42, .agg #[.int .i64 x1, .int .i64 x2, .int .i64 x3]), (43, .slice (some ⟨h19, 0, none⟩) 1 1), (44, .slice (some ⟨g20, 0, none⟩) 1 c20), (45, .pointer (some ⟨g21, 0, none⟩)), (46, .agg #[.int .i64 x1, .int .i64 x2, .int .i64 x3]), (47, .bool (decide ((x1, x2, x3) ∈ L))), (48, .bool false), (49, .bool false)] _ hM.tmps hM.defers (by
      intro s v hm
      simp only [List.mem_cons, Prod.mk.injEq, List.not_mem_nil, or_false] at hm
      rcases hm with ⟨rfl, rfl⟩ | ⟨rfl, rfl⟩ | ⟨rfl, rfl⟩ | ⟨rfl, rfl⟩ | ⟨rfl, rfl⟩ | ⟨rfl, rfl⟩ | ⟨rfl, rfl⟩ | ⟨rfl, rfl⟩ | ⟨rfl, rfl⟩ | ⟨rfl, rfl⟩ | ⟨rfl, rfl⟩ | ⟨rfl, rfl⟩ | ⟨rfl, rfl⟩ | ⟨rfl, rfl⟩ | ⟨rfl, rfl⟩ | ⟨rfl, rfl⟩ | ⟨rfl, rfl⟩ | ⟨rfl, rfl⟩ | ⟨rfl, rfl⟩ | ⟨rfl, rfl⟩ | ⟨rfl, rfl⟩ | ⟨rfl, rfl⟩ | ⟨rfl, rfl⟩ | ⟨rfl, rfl⟩ | ⟨rfl, rfl⟩ | ⟨rfl, rfl⟩
      · exact ⟨(by show 24 < 159; decide), q0⟩
      · exact ⟨(by show 25 < 159; decide), q1⟩
      · exact ⟨(by show 26 < 159; decide), q2⟩
      · exact ⟨(by show 27 < 159; decide), q3⟩
      · exact ⟨(by show 28 < 159; decide), q4⟩
      · exact ⟨(by show 29 < 159; decide), q5⟩
      · exact ⟨(by show 30 < 159; decide), q6⟩
      · exact ⟨(by show 31 < 159; decide), q7⟩
      · exact ⟨(by show 32 < 159; decide), q8⟩
      · exact ⟨(by show 33 < 159; decide), q9⟩
      · exact ⟨(by show 34 < 159; decide), q10⟩
      · exact ⟨(by show 35 < 159; decide), q11⟩
      · exact ⟨(by show 36 < 159; decide), q12⟩
      · exact ⟨(by show 37 < 159; decide), q13⟩
      · exact ⟨(by show 38 < 159; decide), q14⟩
      · exact ⟨(by show 39 < 159; decide), q15⟩
      · exact ⟨(by show 40 < 159; decide), q16⟩
      · exact ⟨(by show 41 < 159; decide), q17⟩
      · exact ⟨(by show 42 < 159; decide), q18⟩
      · exact ⟨(by show 43 < 159; decide), q19⟩
      · exact ⟨(by show 44 < 159; decide), q20⟩
      · exact ⟨(by show 45 < 159; decide), q21⟩
      · exact ⟨(by show 46 < 159; decide), q22⟩
      · exact ⟨(by show 47 < 159; decide), q23⟩
      · exact ⟨(by show 48 < 159; decide), q24⟩
      · exact ⟨(by show 49 < 159; decide), q25⟩) (fun s hs => hM.other s (by exact hs))
    rw [hact]
    have hBX := hM.below
    clear hact hD hM hU q0 q1 q2 q3 q4 q5 q6 q7 q8 q9 q10 q11 q12 q13 q14 q15 q16 q17 q18 q19 q20 q21 q22 q23 q24 q25
    simp only [List.foldl, Act.put, List.setIfInBounds_toArray, List.set_cons_succ, List.set_cons_zero, List.drop_succ_cons, List.drop_zero]
    have H1 := Lib_hid hBX
    clear hBX
    rename World => W2
    go_upto_if 51 with (fail)
    go_cut [3] from 51 to 53 (fun v V => ∃ mm : Int, v = .int .i64 mm ∧ Hid (0 ≤ mm) ∧ Hid (Below W.heap.size W V))
    case first =>
      by_cases hm : m < 0
      · have dm : decide (m < 0) = true := decide_eq_true hm
        obtain ⟨⟨q0, q1⟩, -, -, -⟩ := KB.out _ H1.out
        go_wp2_with fail
        go_meet
        exact ⟨(N : Int), rfl, (by unfold Hid; omega), H1⟩
      · have dm : decide (m < 0) = false := decide_eq_false hm
        go_wp2_with fail
        go_meet
        first
        | exact ⟨m, rfl, (by unfold Hid; omega), H1⟩
        | exact ⟨⟨m, rfl, (by unfold Hid; omega), H1⟩, rfl⟩
        | ((repeat apply Exists.intro); exact ⟨⟨m, rfl, (by unfold Hid; omega), H1⟩, rfl⟩)
    case rest =>
      obtain ⟨mm, rfl, Hm0, H2⟩ := hcut
      clear H1
      rename World => W3
      go_upto_region 5 with (fail)
      refine wp_region_midT (N := 159) 13 (fun i v ww => ([fun v ww => v = .agg #[.int .i64 (N : Int), .slice A L.length c], fun v ww => v = .int .i64 n, fun v ww => ∃ A1 c1 B1, v = .slice A1 (someE L n (-1)).length c1 ∧ Rd ww B1 3 A1 (someE L n (-1)).length (ec (someE L n (-1))) ∧ B1 ≤ ww.heap.size, fun v ww => v = .agg #[.int .i64 (N : Int), .slice A L.length c], fun v ww => v = .int .i64 n, fun v ww => ∃ A1 c1 B1, v = .slice A1 (someE L (-1) n).length c1 ∧ Rd ww B1 3 A1 (someE L (-1) n).length (ec (someE L (-1) n)) ∧ B1 ≤ ww.heap.size, fun v ww => v = .agg #[.int .i64 (N : Int), .slice A L.length c], fun v ww => v = .int .i64 n, fun v ww => v = .int .i64 mm, fun v ww => ∃ A1 c1 B1, v = .slice A1 (someE L n mm).length c1 ∧ Rd ww B1 3 A1 (someE L n mm).length (ec (someE L n mm)) ∧ B1 ≤ ww.heap.size, fun v ww => ∃ A1 c1 B1, v = .slice A1 (someE L n (-1)).length c1 ∧ Rd ww B1 3 A1 (someE L n (-1)).length (ec (someE L n (-1))) ∧ B1 ≤ ww.heap.size, fun v ww => ∃ A1 c1 B1, v = .slice A1 (someE L (-1) n).length c1 ∧ Rd ww B1 3 A1 (someE L (-1) n).length (ec (someE L (-1) n)) ∧ B1 ≤ ww.heap.size, fun v ww => ∃ A1 c1 B1, v = .slice A1 (someE L n mm).length c1 ∧ Rd ww B1 3 A1 (someE L n mm).length (ec (someE L n mm)) ∧ B1 ≤ ww.heap.size] : List (Value → World → Prop)).getD i (fun _ _ => True) v ww) (by kernel_rfl) (by kernel_rfl) (by kernel_rfl) rfl ?_ ?_ ?_
      · intro i v wa wb h0 hb hp
        by_cases hi : i < 13
        · have hcase : i = 0 ∨ i = 1 ∨ i = 2 ∨ i = 3 ∨ i = 4 ∨ i = 5 ∨ i = 6 ∨ i = 7 ∨ i = 8 ∨ i = 9 ∨ i = 10 ∨ i = 11 ∨ i = 12 := by omega
          rcases hcase with rfl | rfl | rfl | rfl | rfl | rfl | rfl | rfl | rfl | rfl | rfl | rfl | rfl
          · exact hp
          · exact hp
          · obtain ⟨A1, c1, B1, e, hr, hB1⟩ := hp
            exact ⟨A1, c1, B1, e, hr.below (hb.mono hB1), Nat.le_trans hB1 hb.size⟩
          · exact hp
          · exact hp
          · obtain ⟨A1, c1, B1, e, hr, hB1⟩ := hp
            exact ⟨A1, c1, B1, e, hr.below (hb.mono hB1), Nat.le_trans hB1 hb.size⟩
          · exact hp
          · exact hp
          · exact hp
          · obtain ⟨A1, c1, B1, e, hr, hB1⟩ := hp
            exact ⟨A1, c1, B1, e, hr.below (hb.mono hB1), Nat.le_trans hB1 hb.size⟩
          · obtain ⟨A1, c1, B1, e, hr, hB1⟩ := hp
            exact ⟨A1, c1, B1, e, hr.below (hb.mono hB1), Nat.le_trans hB1 hb.size⟩
          · obtain ⟨A1, c1, B1, e, hr, hB1⟩ := hp
            exact ⟨A1, c1, B1, e, hr.below (hb.mono hB1), Nat.le_trans hB1 hb.size⟩
          · obtain ⟨A1, c1, B1, e, hr, hB1⟩ := hp
            exact ⟨A1, c1, B1, e, hr.below (hb.mono hB1), Nat.le_trans hB1 hb.size⟩
        · have hnn : ([fun v ww => v = .agg #[.int .i64 (N : Int), .slice A L.length c], fun v ww => v = .int .i64 n, fun v ww => ∃ A1 c1 B1, v = .slice A1 (someE L n (-1)).length c1 ∧ Rd ww B1 3 A1 (someE L n (-1)).length (ec (someE L n (-1))) ∧ B1 ≤ ww.heap.size, fun v ww => v = .agg #[.int .i64 (N : Int), .slice A L.length c], fun v ww => v = .int .i64 n, fun v ww => ∃ A1 c1 B1, v = .slice A1 (someE L (-1) n).length c1 ∧ Rd ww B1 3 A1 (someE L (-1) n).length (ec (someE L (-1) n)) ∧ B1 ≤ ww.heap.size, fun v ww => v = .agg #[.int .i64 (N : Int), .slice A L.length c], fun v ww => v = .int .i64 n, fun v ww => v = .int .i64 mm, fun v ww => ∃ A1 c1 B1, v = .slice A1 (someE L n mm).length c1 ∧ Rd ww B1 3 A1 (someE L n mm).length (ec (someE L n mm)) ∧ B1 ≤ ww.heap.size, fun v ww => ∃ A1 c1 B1, v = .slice A1 (someE L n (-1)).length c1 ∧ Rd ww B1 3 A1 (someE L n (-1)).length (ec (someE L n (-1))) ∧ B1 ≤ ww.heap.size, fun v ww => ∃ A1 c1 B1, v = .slice A1 (someE L (-1) n).length c1 ∧ Rd ww B1 3 A1 (someE L (-1) n).length (ec (someE L (-1) n)) ∧ B1 ≤ ww.heap.size, fun v ww => ∃ A1 c1 B1, v = .slice A1 (someE L n mm).length c1 ∧ Rd ww B1 3 A1 (someE L n mm).length (ec (someE L n mm)) ∧ B1 ≤ ww.heap.size] : List (Value → World → Prop))[i]? = none := List.getElem?_eq_none (by simpa using hi)
          rw [List.getD_eq_getElem?_getD, hnn]
          trivial
      · intro i o a wx hi8 hi hM hD
        have hcase : i = 0 ∨ i = 1 ∨ i = 2 ∨ i = 3 ∨ i = 4 ∨ i = 5 ∨ i = 6 ∨ i = 7 ∨ i = 8 ∨ i = 9 ∨ i = 10 ∨ i = 11 ∨ i = 12 := by omega
        clear hi8
        rcases hcase with rfl | rfl | rfl | rfl | rfl | rfl | rfl | rfl | rfl | rfl | rfl | rfl | rfl
        · obtain rfl := Option.some.inj hi
          have e6 : a.tmps.getD 6 undef = .pointer (some ⟨w.heap.size, 0, none⟩) := (hM.other 6 (by decide +kernel)).trans rfl
          obtain ⟨⟨q0, q1⟩, k0, k1, k2⟩ := KB.out _ (H2.out.trans (hM.below.mono H2.out.size))
          refine ⟨rfl, mid_step (.agg #[.int .i64 (N : Int), .slice A L.length c]) wx (fun K hK => ?_) ⟨_, rfl, rfl, Below.refl _ _⟩⟩
          go_simp
          exact hK
        · obtain rfl := Option.some.inj hi
          have e2 : a.tmps.getD 2 undef = .int .i64 n := (hM.other 2 (by decide +kernel)).trans rfl
          refine ⟨rfl, mid_step (.int .i64 n) wx (fun K hK => ?_) ⟨_, rfl, rfl, Below.refl _ _⟩⟩
          go_simp
          exact hK
        · obtain rfl := Option.some.inj hi
          have e54 : a.tmps.getD 54 undef = .agg #[.int .i64 (N : Int), .slice A L.length c] := hD 0 (by kernel_rfl) _ 54 rfl rfl
          have e55 : a.tmps.getD 55 undef = .int .i64 n := hD 1 (by kernel_rfl) _ 55 rfl rfl
          refine ⟨rfl, mid_call (fun v w' => (∃ A1 c1 B1, v = .slice A1 (someE L n (-1)).length c1 ∧ Rd w' B1 3 A1 (someE L n (-1)).length (ec (someE L n (-1))) ∧ B1 ≤ w'.heap.size) ∧ Below wx.heap.size wx w') (fun K hK => ?_) (fun v w' h => ⟨v, rfl, h.1, h.2⟩)⟩
          go_simp
          refine (rsome_any (c := c) (N := (N : Int)) n (-1) (GX.out _ (H2.out.trans (hM.below.mono H2.out.size))).2.1 (GX.out _ (H2.out.trans (hM.below.mono H2.out.size))).2.2 HLN.out).mono ?_
          rintro e w' ⟨A1, c1, rfl, ho, hb'⟩
          exact hK _ _ ⟨⟨A1, c1, w'.heap.size, rfl, Rd.own ho, Nat.le_refl _⟩, hb'⟩
        · obtain rfl := Option.some.inj hi
          have e6 : a.tmps.getD 6 undef = .pointer (some ⟨w.heap.size, 0, none⟩) := (hM.other 6 (by decide +kernel)).trans rfl
          obtain ⟨⟨q0, q1⟩, k0, k1, k2⟩ := KB.out _ (H2.out.trans (hM.below.mono H2.out.size))
          refine ⟨rfl, mid_step (.agg #[.int .i64 (N : Int), .slice A L.length c]) wx (fun K hK => ?_) ⟨_, rfl, rfl, Below.refl _ _⟩⟩
          go_simp
          exact hK
        · obtain rfl := Option.some.inj hi
          have e2 : a.tmps.getD 2 undef = .int .i64 n := (hM.other 2 (by decide +kernel)).trans rfl
          refine ⟨rfl, mid_step (.int .i64 n) wx (fun K hK => ?_) ⟨_, rfl, rfl, Below.refl _ _⟩⟩
          go_simp
          exact hK
        · obtain rfl := Option.some.inj hi
          have e57 : a.tmps.getD 57 undef = .agg #[.int .i64 (N : Int), .slice A L.length c] := hD 3 (by kernel_rfl) _ 57 rfl rfl
          have e58 : a.tmps.getD 58 undef = .int .i64 n := hD 4 (by kernel_rfl) _ 58 rfl rfl
          refine ⟨rfl, mid_call (fun v w' => (∃ A1 c1 B1, v = .slice A1 (someE L (-1) n).length c1 ∧ Rd w' B1 3 A1 (someE L (-1) n).length (ec (someE L (-1) n)) ∧ B1 ≤ w'.heap.size) ∧ Below wx.heap.size wx w') (fun K hK => ?_) (fun v w' h => ⟨v, rfl, h.1, h.2⟩)⟩
          go_simp
          refine (rsome_any (c := c) (N := (N : Int)) (-1) n (GX.out _ (H2.out.trans (hM.below.mono H2.out.size))).2.1 (GX.out _ (H2.out.trans (hM.below.mono H2.out.size))).2.2 HLN.out).mono ?_
          rintro e w' ⟨A1, c1, rfl, ho, hb'⟩
          exact hK _ _ ⟨⟨A1, c1, w'.heap.size, rfl, Rd.own ho, Nat.le_refl _⟩, hb'⟩
        · obtain rfl := Option.some.inj hi
          have e6 : a.tmps.getD 6 undef = .pointer (some ⟨w.heap.size, 0, none⟩) := (hM.other 6 (by decide +kernel)).trans rfl
          obtain ⟨⟨q0, q1⟩, k0, k1, k2⟩ := KB.out _ (H2.out.trans (hM.below.mono H2.out.size))
          refine ⟨rfl, mid_step (.agg #[.int .i64 (N : Int), .slice A L.length c]) wx (fun K hK => ?_) ⟨_, rfl, rfl, Below.refl _ _⟩⟩
          go_simp
          exact hK
        · obtain rfl := Option.some.inj hi
          have e2 : a.tmps.getD 2 undef = .int .i64 n := (hM.other 2 (by decide +kernel)).trans rfl
          refine ⟨rfl, mid_step (.int .i64 n) wx (fun K hK => ?_) ⟨_, rfl, rfl, Below.refl _ _⟩⟩
          go_simp
          exact hK
        · obtain rfl := Option.some.inj hi
          have e3 : a.tmps.getD 3 undef = .int .i64 mm := (hM.other 3 (by decide +kernel)).trans rfl
          refine ⟨rfl, mid_step (.int .i64 mm) wx (fun K hK => ?_) ⟨_, rfl, rfl, Below.refl _ _⟩⟩
          go_simp
          exact hK
        · obtain rfl := Option.some.inj hi
          have e60 : a.tmps.getD 60 undef = .agg #[.int .i64 (N : Int), .slice A L.length c] := hD 6 (by kernel_rfl) _ 60 rfl rfl
          have e61 : a.tmps.getD 61 undef = .int .i64 n := hD 7 (by kernel_rfl) _ 61 rfl rfl
          have e62 : a.tmps.getD 62 undef = .int .i64 mm := hD 8 (by kernel_rfl) _ 62 rfl rfl
          refine ⟨rfl, mid_call (fun v w' => (∃ A1 c1 B1, v = .slice A1 (someE L n mm).length c1 ∧ Rd w' B1 3 A1 (someE L n mm).length (ec (someE L n mm)) ∧ B1 ≤ w'.heap.size) ∧ Below wx.heap.size wx w') (fun K hK => ?_) (fun v w' h => ⟨v, rfl, h.1, h.2⟩)⟩
          go_simp
          refine (rsome_any (c := c) (N := (N : Int)) n mm (GX.out _ (H2.out.trans (hM.below.mono H2.out.size))).2.1 (GX.out _ (H2.out.trans (hM.below.mono H2.out.size))).2.2 HLN.out).mono ?_
          rintro e w' ⟨A1, c1, rfl, ho, hb'⟩
          exact hK _ _ ⟨⟨A1, c1, w'.heap.size, rfl, Rd.own ho, Nat.le_refl _⟩, hb'⟩
        · obtain rfl := Option.some.inj hi
          obtain ⟨A1, c1, B1, e56, hr, hB1⟩ := hD 2 (by kernel_rfl) _ 56 rfl rfl
          refine ⟨rfl, mid_step (.slice A1 (someE L n (-1)).length c1) wx (fun K hK => ?_) ⟨_, rfl, ⟨A1, c1, B1, rfl, hr, hB1⟩, Below.refl _ _⟩⟩
          go_simp
          exact hK
        · obtain rfl := Option.some.inj hi
          obtain ⟨A1, c1, B1, e59, hr, hB1⟩ := hD 5 (by kernel_rfl) _ 59 rfl rfl
          refine ⟨rfl, mid_step (.slice A1 (someE L (-1) n).length c1) wx (fun K hK => ?_) ⟨_, rfl, ⟨A1, c1, B1, rfl, hr, hB1⟩, Below.refl _ _⟩⟩
          go_simp
          exact hK
        · obtain rfl := Option.some.inj hi
          obtain ⟨A1, c1, B1, e63, hr, hB1⟩ := hD 9 (by kernel_rfl) _ 63 rfl rfl
          refine ⟨rfl, mid_step (.slice A1 (someE L n mm).length c1) wx (fun K hK => ?_) ⟨_, rfl, ⟨A1, c1, B1, rfl, hr, hB1⟩, Below.refl _ _⟩⟩
          go_simp
          exact hK
      · intro a wx hM hU hD
        have q0 := hD 0 (by decide) _ 54 rfl rfl
        have q1 := hD 1 (by decide) _ 55 rfl rfl
        obtain ⟨A2, c2, B2, e2r, hr2, hB2⟩ := hD 2 (by decide) _ 56 rfl rfl
        have q2 : a.tmps.getD 56 undef = .slice A2 (someE L n (-1)).length c2 := by assumption
        have q3 := hD 3 (by decide) _ 57 rfl rfl
        have q4 := hD 4 (by decide) _ 58 rfl rfl
        obtain ⟨A5, c5, B5, e5r, hr5, hB5⟩ := hD 5 (by decide) _ 59 rfl rfl
        have q5 : a.tmps.getD 59 undef = .slice A5 (someE L (-1) n).length c5 := by assumption
        have q6 := hD 6 (by decide) _ 60 rfl rfl
        have q7 := hD 7 (by decide) _ 61 rfl rfl
        have q8 := hD 8 (by decide) _ 62 rfl rfl
        obtain ⟨A9, c9, B9, e9r, hr9, hB9⟩ := hD 9 (by decide) _ 63 rfl rfl
        have q9 : a.tmps.getD 63 undef = .slice A9 (someE L n mm).length c9 := by assumption
        obtain ⟨A10, c10, B10, e10r, hr10, hB10⟩ := hD 10 (by decide) _ 11 rfl rfl
        have q10 : a.tmps.getD 11 undef = .slice A10 (someE L n (-1)).length c10 := by assumption
        obtain ⟨A11, c11, B11, e11r, hr11, hB11⟩ := hD 11 (by decide) _ 12 rfl rfl
        have q11 : a.tmps.getD 12 undef = .slice A11 (someE L (-1) n).length c11 := by assumption
        obtain ⟨A12, c12, B12, e12r, hr12, hB12⟩ := hD 12 (by decide) _ 13 rfl rfl
        have q12 : a.tmps.getD 13 undef = .slice A12 (someE L n mm).length c12 := by assumption
        have hact := act_puts (a := a) [(54, .agg #[.int .i64 (N : Int), .slice A L.length c]), (55, .int .i64 n), (56, .slice A2 (someE L n (-1)).length c2), (57, .agg #[.int .i64 (N : Int), .slice A L.length c]), (58, .int .i64 n), (59, .slice A5 (someE L (-1) n).length c5), (60, .agg #[.int .i64 (N : Int), .slice A L.length c]), (61, .int .i64 n), (62, .int .i64 mm), (63, .slice A9 (someE L n mm).length c9), (11, .slice A10 (someE L n (-1)).length c10), (12, .slice A11 (someE L (-1) n).length c11), (13, .slice A12 (someE L n mm).length c12)] _ hM.tmps hM.defers (by
          intro s v hm
          simp only [List.mem_cons, Prod.mk.injEq, List.not_mem_nil, or_false] at hm
          rcases hm with ⟨rfl, rfl⟩ | ⟨rfl, rfl⟩ | ⟨rfl, rfl⟩ | ⟨rfl, rfl⟩ | ⟨rfl, rfl⟩ | ⟨rfl, rfl⟩ | ⟨rfl, rfl⟩ | ⟨rfl, rfl⟩ | ⟨rfl, rfl⟩ | ⟨rfl, rfl⟩ | ⟨rfl, rfl⟩ | ⟨rfl, rfl⟩ | ⟨rfl, rfl⟩
          · exact ⟨(by show 54 < 159; decide), q0⟩
          · exact ⟨(by show 55 < 159; decide), q1⟩
          · exact ⟨(by show 56 < 159; decide), q2⟩
          · exact ⟨(by show 57 < 159; decide), q3⟩
          · exact ⟨(by show 58 < 159; decide), q4⟩
          · exact ⟨(by show 59 < 159; decide), q5⟩
          · exact ⟨(by show 60 < 159; decide), q6⟩
          · exact ⟨(by show 61 < 159; decide), q7⟩
          · exact ⟨(by show 62 < 159; decide), q8⟩
          · exact ⟨(by show 63 < 159; decide), q9⟩
          · exact ⟨(by show 11 < 159; decide), q10⟩
          · exact ⟨(by show 12 < 159; decide), q11⟩
          · exact ⟨(by show 13 < 159; decide), q12⟩) (fun s hs => hM.other s (by exact hs))
        rw [hact]
        have hBX := hM.below
        clear hact hD hM hU q0 q1 q2 q3 q4 q5 q6 q7 q8 q9 q10 q11 q12
        simp only [List.foldl, Act.put, List.setIfInBounds_toArray, List.set_cons_succ, List.set_cons_zero, List.drop_succ_cons, List.drop_zero]
        have H5 : Hid (∀ V : World, Below wx.heap.size wx V → Below W.heap.size W V) := fun V hV => (H2.out.trans (hBX.mono H2.out.size)).trans (hV.mono (Nat.le_trans H2.out.size hBX.size))
        go_upto_if 65 with (fail)
        go_cut [11, 12, 13] from 65 to 65 (fun a b d V => ∃ (Da Db Dc : Option Addr) (da db dc : Nat), a = .slice Da (outE L n).length da ∧ b = .slice Db (inE L n).length db ∧ d = .slice Dc (betE L n mm).length dc ∧ Hid (Rd V V.heap.size 3 Da (outE L n).length (ec (outE L n)) ∧ Rd V V.heap.size 3 Db (inE L n).length (ec (inE L n)) ∧ Rd V V.heap.size 3 Dc (betE L n mm).length (ec (betE L n mm))) ∧ Hid (Below W.heap.size W V))
        case first =>
          by_cases hn : n < 0
          · have dn : decide (n < 0) = true := decide_eq_true hn
            have hno : isN N n = false := by
              cases h : isN N n with
              | false => rfl
              | true => have := isN_iff.1 h; omega
            have e1 : outE L n = [] := by
              unfold outE
              rw [List.filter_eq_nil_iff]
              intro e he hc
              rw [decide_eq_true_eq] at hc
              have := HED.out e he
              omega
            have e2 : inE L n = [] := by
              unfold inE
              rw [List.filter_eq_nil_iff]
              intro e he hc
              rw [decide_eq_true_eq] at hc
              have := HED.out e he
              omega
            have e3 : betE L n mm = [] := betE_none HED.out (.inl hno)
            go_wp2_with fail
            go_meet
            rw [e1, e2, e3]
            first
            | exact ⟨none, none, none, 0, 0, 0, rfl, rfl, rfl, ⟨Rd.zero, Rd.zero, Rd.zero⟩, H5.out _ (Below.refl _ _)⟩
            | exact ⟨⟨none, none, none, 0, 0, 0, rfl, rfl, rfl, ⟨Rd.zero, Rd.zero, Rd.zero⟩, H5.out _ (Below.refl _ _)⟩, rfl⟩
          · have dn : decide (n < 0) = false := decide_eq_false hn
            have hn0 : 0 ≤ n := by omega
            rw [someE_out L hn0] at hr10
            rw [someE_in L hn0] at hr11
            rw [someE_bet L hn0 Hm0.out] at hr12
            have HR9 := Lib_hid (And.intro (hr10.more hB10) (And.intro (hr11.more hB11) (hr12.more hB12)))
            go_wp2_with fail
            go_meet
            rw [someE_out L hn0, someE_in L hn0, someE_bet L hn0 Hm0.out]
            first
            | exact ⟨A10, A11, A12, c10, c11, c12, rfl, rfl, rfl, HR9, H5.out _ (Below.refl _ _)⟩
            | exact ⟨⟨A10, A11, A12, c10, c11, c12, rfl, rfl, rfl, HR9, H5.out _ (Below.refl _ _)⟩, rfl⟩
            | ((repeat apply Exists.intro); exact ⟨⟨A10, A11, A12, c10, c11, c12, rfl, rfl, rfl, HR9, H5.out _ (Below.refl _ _)⟩, rfl⟩)
        case rest =>
          obtain ⟨Da, Db, Dc, da, db, dc, rfl, rfl, rfl, HD0, H6⟩ := hcut
          clear H5 H2
          rename World => W6
          have DW0 : Hid (∀ V : World, Below W6.heap.size W6 V → Rd V W6.heap.size 3 Da (outE L n).length (ec (outE L n)) ∧ Rd V W6.heap.size 3 Db (inE L n).length (ec (inE L n)) ∧ Rd V W6.heap.size 3 Dc (betE L n mm).length (ec (betE L n mm))) := fun V hV => ⟨HD0.out.1.below hV, HD0.out.2.1.below hV, HD0.out.2.2.below hV⟩
          have H66 : Hid (∀ V : World, Below W6.heap.size W6 V → Below W.heap.size W V) := fun V hV => H6.out.trans (hV.mono H6.out.size)
          clear HD0 H6
          generalize mm = m at *
          go_wp2_with fail
          go_loopw [14] (fun z wr => ∃ t : Nat, z = .int .i64 t ∧ t ≤ 2 ∧ Hid (Below W6.heap.size W6 wr)) (fun z _ => 2 - (intOf z).toNat)
          case atStart => exact ⟨0, rfl, by omega, Below.refl _ _⟩
          case round =>
            obtain ⟨t, rfl, ht, hbt⟩ := hrel
            rename World => W7
            by_cases htl : t < 2
            · have dt : decide ((t : Int) < 2) = true := decide_eq_true (by omega)
              have C1 := Lib_hid (pedges_any (GX.out _ (H66.out _ hbt.out)).1 HN.out HLN.out)
              go_wp2_with fail
              refine C1.out.mono ?_
              rintro r w11 ⟨Aa, ca, rfl, ho1, hb1⟩
              have HB1 := Lib_hid (hbt.out.trans (hb1.mono hbt.out.size))
              have C2 := Lib_hid (pout_any (GX.out _ (H66.out _ HB1.out)).1 HN.out (Nat.le_trans HLN.out (by decide)) n)
              clear C1
              go_wp2_with fail
              refine C2.out.mono ?_
              rintro r w12 ⟨Ao, co, rfl, ho2, hb2⟩
              have HB2 := Lib_hid (HB1.out.trans (hb2.mono HB1.out.size))
              have C3 := Lib_hid (pin_any (GX.out _ (H66.out _ HB2.out)).1 HN.out (Nat.le_trans HLN.out (by decide)) n)
              clear C2
              go_wp2_with fail
              refine C3.out.mono ?_
              rintro r w13 ⟨Ai, ci, rfl, ho3, hb3⟩
              have HB3 := Lib_hid (HB2.out.trans (hb3.mono HB2.out.size))
              have C4 := Lib_hid (pbetween_any (GX.out _ (H66.out _ HB3.out)).1 HN.out HLN.out n m)
              clear C3
              go_wp2_with fail
              refine C4.out.mono ?_
              rintro r w14 ⟨Ab, cb, rfl, ho4, hb4⟩
              have HB4 := Lib_hid (HB3.out.trans (hb4.mono HB3.out.size))
              have C5 := Lib_hid (pnext_any (GX.out _ (H66.out _ HB4.out)).1 HN.out HLN.out n)
              clear C4
              go_wp2_with fail
              refine C5.out.mono ?_
              rintro r w15 ⟨An, cn, rfl, ho5, hb5⟩
              have HB5 := Lib_hid (HB4.out.trans (hb5.mono HB4.out.size))
              clear C5
              have c45 := hb5
              have c35 := hb4.trans (c45.mono hb4.size)
              have c25 := hb3.trans (c35.mono hb3.size)
              have c15 := hb2.trans (c25.mono hb2.size)
              have c05 := hb1.trans (c15.mono hb1.size)
              have q1 := own_below ho1 c15 (own_lt ho1)
              have q2 := own_below ho2 c25 (own_lt ho2)
              have q3 := own_below ho3 c35 (own_lt ho3)
              have q4 := own_below ho4 c45 (own_lt ho4)
              have RW : Hid (∀ V : World, Below w15.heap.size w15 V → Rd V w15.heap.size 3 Aa L.length (ec L) ∧ Rd V w15.heap.size 3 Ao (outE L n).length (ec (outE L n)) ∧ Rd V w15.heap.size 3 Ai (inE L n).length (ec (inE L n)) ∧ Rd V w15.heap.size 3 Ab (betE L n m).length (ec (betE L n m)) ∧ Rd V w15.heap.size 1 An (nextZ L n).length (zc (nextZ L n))) := fun V hV =>
                ⟨(Rd.own q1).below hV, (Rd.own q2).below hV, (Rd.own q3).below hV, (Rd.own q4).below hV, (Rd.own ho5).below hV⟩
              have WR : Hid (WRow W7.heap.size w15 Aa (L.length * 3) ∧ WRow W7.heap.size w15 Ao ((outE L n).length * 3) ∧ WRow W7.heap.size w15 Ai ((inE L n).length * 3) ∧ WRow W7.heap.size w15 An ((nextZ L n).length * 1)) :=
                ⟨WRow.of_own q1, (WRow.of_own q2).mono hb1.size, (WRow.of_own q3).mono (hb1.trans (hb2.mono hb1.size)).size, (WRow.of_own ho5).mono (Nat.le_trans hb1.size (Nat.le_trans hb2.size (Nat.le_trans hb3.size hb4.size)))⟩
              have DW : Hid (∀ V : World, Below w15.heap.size w15 V → True ∧ Rd V W6.heap.size 3 Da (outE L n).length (ec (outE L n)) ∧ Rd V W6.heap.size 3 Db (inE L n).length (ec (inE L n)) ∧ Rd V W6.heap.size 3 Dc (betE L n m).length (ec (betE L n m)) ∧ True) := fun V hV => by
                obtain ⟨a, b, d⟩ := DW0.out V (HB5.out.trans (hV.mono HB5.out.size))
                exact ⟨trivial, a, b, d, trivial⟩
              have H10 : Hid (∀ V : World, Below w15.heap.size w15 V → Below W.heap.size W V) := fun V hV => H66.out V (HB5.out.trans (hV.mono HB5.out.size))
              have LNW : Hid (L.length ≤ 1000000 ∧ (outE L n).length ≤ 1000000 ∧ (inE L n).length ≤ 1000000 ∧ (betE L n m).length ≤ 1000000 ∧ (nextZ L n).length ≤ 1000000) := ⟨HLN.out, Nat.le_trans (List.length_filter_le _ _) HLN.out, Nat.le_trans (List.length_filter_le _ _) HLN.out, Nat.le_trans (List.length_filter_le _ _) HLN.out, Nat.le_trans (nextZ_len _ _) HLN.out⟩
              have C07 := Lib_hid c05
              clear ho1 ho2 ho3 ho4 ho5 hb1 hb2 hb3 hb4 hb5 c45 c35 c25 c15 c05 q1 q2 q3 q4 HB1 HB2 HB3 HB4
              go_upto_region 12 with (fail)
              refine wp_region_midT (N := 159) 35 (fun i v ww => ([fun v ww => v = .slice Aa (L).length ca, fun v ww => ∃ A1 c1 B1, v = .slice A1 (L).length c1 ∧ Rd ww B1 3 A1 (L).length (ec (L)) ∧ B1 ≤ ww.heap.size, fun v ww => v = .pointer (some ⟨w.heap.size, 1, none⟩), fun v ww => v = .slice A L.length c, fun v ww => v = .bool true, fun v ww => v = .bool false, fun v ww => v = .bool false, fun v ww => v = .slice Ao (outE L n).length co, fun v ww => ∃ A1 c1 B1, v = .slice A1 (outE L n).length c1 ∧ Rd ww B1 3 A1 (outE L n).length (ec (outE L n)) ∧ B1 ≤ ww.heap.size, fun v ww => v = .slice Da (outE L n).length da, fun v ww => v = .bool true, fun v ww => v = .bool false, fun v ww => v = .bool false, fun v ww => v = .bool false, fun v ww => v = .slice Ai (inE L n).length ci, fun v ww => ∃ A1 c1 B1, v = .slice A1 (inE L n).length c1 ∧ Rd ww B1 3 A1 (inE L n).length (ec (inE L n)) ∧ B1 ≤ ww.heap.size, fun v ww => v = .slice Db (inE L n).length db, fun v ww => v = .bool true, fun v ww => v = .bool false, fun v ww => v = .bool false, fun v ww => v = .bool false, fun v ww => v = .slice Ab (betE L n m).length cb, fun v ww => ∃ A1 c1 B1, v = .slice A1 (betE L n m).length c1 ∧ Rd ww B1 3 A1 (betE L n m).length (ec (betE L n m)) ∧ B1 ≤ ww.heap.size, fun v ww => v = .slice Dc (betE L n m).length dc, fun v ww => v = .bool true, fun v ww => v = .bool false, fun v ww => v = .bool false, fun v ww => v = .bool false, fun v ww => v = .slice An (nextZ L n).length cn, fun v ww => v = .agg #[.int .i64 (N : Int), .slice A L.length c], fun v ww => v = .int .i64 n, fun v ww => ∃ A1 c1 B1, v = .slice A1 (nextZ L n).length c1 ∧ Rd ww B1 1 A1 (nextZ L n).length (zc (nextZ L n)) ∧ B1 ≤ ww.heap.size, fun v ww => v = .bool true, fun v ww => v = .bool false, fun v ww => v = .bool false] : List (Value → World → Prop)).getD i (fun _ _ => True) v ww) (by kernel_rfl) (by kernel_rfl) (by kernel_rfl) rfl ?_ ?_ ?_
              · intro i v wa wb h0 hb hp
                by_cases hi : i < 35
                · have hcase : i = 0 ∨ i = 1 ∨ i = 2 ∨ i = 3 ∨ i = 4 ∨ i = 5 ∨ i = 6 ∨ i = 7 ∨ i = 8 ∨ i = 9 ∨ i = 10 ∨ i = 11 ∨ i = 12 ∨ i = 13 ∨ i = 14 ∨ i = 15 ∨ i = 16 ∨ i = 17 ∨ i = 18 ∨ i = 19 ∨ i = 20 ∨ i = 21 ∨ i = 22 ∨ i = 23 ∨ i = 24 ∨ i = 25 ∨ i = 26 ∨ i = 27 ∨ i = 28 ∨ i = 29 ∨ i = 30 ∨ i = 31 ∨ i = 32 ∨ i = 33 ∨ i = 34 := by omega
                  rcases hcase with rfl | rfl | rfl | rfl | rfl | rfl | rfl | rfl | rfl | rfl | rfl | rfl | rfl | rfl | rfl | rfl | rfl | rfl | rfl | rfl | rfl | rfl | rfl | rfl | rfl | rfl | rfl | rfl | rfl | rfl | rfl | rfl | rfl | rfl | rfl
                  · exact hp
                  · obtain ⟨A1, c1, B1, e, hr, hB1⟩ := hp
                    exact ⟨A1, c1, B1, e, hr.below (hb.mono hB1), Nat.le_trans hB1 hb.size⟩
                  · exact hp
                  · exact hp
                  · exact hp
                  · exact hp
                  · exact hp
                  · exact hp
                  · obtain ⟨A1, c1, B1, e, hr, hB1⟩ := hp
                    exact ⟨A1, c1, B1, e, hr.below (hb.mono hB1), Nat.le_trans hB1 hb.size⟩
                  · exact hp
                  · exact hp
                  · exact hp
                  · exact hp
                  · exact hp
                  · exact hp
                  · obtain ⟨A1, c1, B1, e, hr, hB1⟩ := hp
                    exact ⟨A1, c1, B1, e, hr.below (hb.mono hB1), Nat.le_trans hB1 hb.size⟩
                  · exact hp
                  · exact hp
                  · exact hp
                  · exact hp
                  · exact hp
                  · exact hp
                  · obtain ⟨A1, c1, B1, e, hr, hB1⟩ := hp
                    exact ⟨A1, c1, B1, e, hr.below (hb.mono hB1), Nat.le_trans hB1 hb.size⟩
                  · exact hp
                  · exact hp
                  · exact hp
                  · exact hp
                  · exact hp
                  · exact hp
                  · exact hp
                  · exact hp
                  · obtain ⟨A1, c1, B1, e, hr, hB1⟩ := hp
                    exact ⟨A1, c1, B1, e, hr.below (hb.mono hB1), Nat.le_trans hB1 hb.size⟩
                  · exact hp
                  · exact hp
                  · exact hp
                · have hnn : ([fun v ww => v = .slice Aa (L).length ca, fun v ww => ∃ A1 c1 B1, v = .slice A1 (L).length c1 ∧ Rd ww B1 3 A1 (L).length (ec (L)) ∧ B1 ≤ ww.heap.size, fun v ww => v = .pointer (some ⟨w.heap.size, 1, none⟩), fun v ww => v = .slice A L.length c, fun v ww => v = .bool true, fun v ww => v = .bool false, fun v ww => v = .bool false, fun v ww => v = .slice Ao (outE L n).length co, fun v ww => ∃ A1 c1 B1, v = .slice A1 (outE L n).length c1 ∧ Rd ww B1 3 A1 (outE L n).length (ec (outE L n)) ∧ B1 ≤ ww.heap.size, fun v ww => v = .slice Da (outE L n).length da, fun v ww => v = .bool true, fun v ww => v = .bool false, fun v ww => v = .bool false, fun v ww => v = .bool false, fun v ww => v = .slice Ai (inE L n).length ci, fun v ww => ∃ A1 c1 B1, v = .slice A1 (inE L n).length c1 ∧ Rd ww B1 3 A1 (inE L n).length (ec (inE L n)) ∧ B1 ≤ ww.heap.size, fun v ww => v = .slice Db (inE L n).length db, fun v ww => v = .bool true, fun v ww => v = .bool false, fun v ww => v = .bool false, fun v ww => v = .bool false, fun v ww => v = .slice Ab (betE L n m).length cb, fun v ww => ∃ A1 c1 B1, v = .slice A1 (betE L n m).length c1 ∧ Rd ww B1 3 A1 (betE L n m).length (ec (betE L n m)) ∧ B1 ≤ ww.heap.size, fun v ww => v = .slice Dc (betE L n m).length dc, fun v ww => v = .bool true, fun v ww => v = .bool false, fun v ww => v = .bool false, fun v ww => v = .bool false, fun v ww => v = .slice An (nextZ L n).length cn, fun v ww => v = .agg #[.int .i64 (N : Int), .slice A L.length c], fun v ww => v = .int .i64 n, fun v ww => ∃ A1 c1 B1, v = .slice A1 (nextZ L n).length c1 ∧ Rd ww B1 1 A1 (nextZ L n).length (zc (nextZ L n)) ∧ B1 ≤ ww.heap.size, fun v ww => v = .bool true, fun v ww => v = .bool false, fun v ww => v = .bool false] : List (Value → World → Prop))[i]? = none := List.getElem?_eq_none (by simpa using hi)
                  rw [List.getD_eq_getElem?_getD, hnn]
                  trivial
              · intro i o a wx hi8 hi hM hD
                have hcase : i = 0 ∨ i = 1 ∨ i = 2 ∨ i = 3 ∨ i = 4 ∨ i = 5 ∨ i = 6 ∨ i = 7 ∨ i = 8 ∨ i = 9 ∨ i = 10 ∨ i = 11 ∨ i = 12 ∨ i = 13 ∨ i = 14 ∨ i = 15 ∨ i = 16 ∨ i = 17 ∨ i = 18 ∨ i = 19 ∨ i = 20 ∨ i = 21 ∨ i = 22 ∨ i = 23 ∨ i = 24 ∨ i = 25 ∨ i = 26 ∨ i = 27 ∨ i = 28 ∨ i = 29 ∨ i = 30 ∨ i = 31 ∨ i = 32 ∨ i = 33 ∨ i = 34 := by omega
                clear hi8
                rcases hcase with rfl | rfl | rfl | rfl | rfl | rfl | rfl | rfl | rfl | rfl | rfl | rfl | rfl | rfl | rfl | rfl | rfl | rfl | rfl | rfl | rfl | rfl | rfl | rfl | rfl | rfl | rfl | rfl | rfl | rfl | rfl | rfl | rfl | rfl | rfl
                · obtain rfl := Option.some.inj hi
                  have e15 : a.tmps.getD 15 undef = .slice Aa (L).length ca := (hM.other 15 (by decide +kernel)).trans rfl
                  refine ⟨rfl, mid_step (.slice Aa (L).length ca) wx (fun K hK => ?_) ⟨_, rfl, rfl, Below.refl _ _⟩⟩
                  go_simp
                  exact hK
                · obtain rfl := Option.some.inj hi
                  have e85 : a.tmps.getD 85 undef = .slice Aa (L).length ca := hD 0 (by kernel_rfl) _ 85 rfl rfl
                  refine ⟨rfl, mid_call (fun v w' => (∃ A1 c1 B1, v = .slice A1 (L).length c1 ∧ Rd w' B1 3 A1 (L).length (ec (L)) ∧ B1 ≤ w'.heap.size) ∧ Below wx.heap.size wx w') (fun K hK => ?_) (fun v w' h => ⟨v, rfl, h.1, h.2⟩)⟩
                  go_simp
                  refine (redges_any (c := ca) (RW.out _ hM.below).1 hM.below.size (LNW.out.1)).mono ?_
                  rintro e w' ⟨A1, c1, rfl, ho, hb'⟩
                  exact hK _ _ ⟨⟨A1, c1, w'.heap.size, rfl, Rd.own ho, Nat.le_refl _⟩, hb'⟩
                · obtain rfl := Option.some.inj hi
                  have e6 : a.tmps.getD 6 undef = .pointer (some ⟨w.heap.size, 0, none⟩) := (hM.other 6 (by decide +kernel)).trans rfl
                  refine ⟨rfl, mid_step (.pointer (some ⟨w.heap.size, 1, none⟩)) wx (fun K hK => ?_) ⟨_, rfl, rfl, Below.refl _ _⟩⟩
                  go_simp
                  exact hK
                · obtain rfl := Option.some.inj hi
                  have e87 : a.tmps.getD 87 undef = .pointer (some ⟨w.heap.size, 1, none⟩) := hD 2 (by kernel_rfl) _ 87 rfl rfl
                  obtain ⟨⟨q0, q1⟩, k0, k1, k2⟩ := KB.out _ (H10.out _ hM.below)
                  refine ⟨rfl, mid_step (.slice A L.length c) wx (fun K hK => ?_) ⟨_, rfl, rfl, Below.refl _ _⟩⟩
                  go_simp
                  exact hK
                · obtain rfl := Option.some.inj hi
                  obtain ⟨A1, c1, B1, e86, hr, hB1⟩ := hD 1 (by kernel_rfl) _ 86 rfl rfl
                  have e88 : a.tmps.getD 88 undef = .slice A L.length c := hD 3 (by kernel_rfl) _ 88 rfl rfl
                  refine ⟨rfl, mid_call (fun v w' => v = .bool true ∧ Below wx.heap.size wx w') (fun K hK => ?_) (fun v w' h => ⟨v, rfl, h.1, h.2⟩)⟩
                  go_simp
                  refine (rsamee_any hr (GX.out _ (H10.out _ hM.below)).2.1 (LNW.out.1)).mono ?_
                  rintro e w' ⟨rfl, q, rfl⟩
                  exact hK _ _ ⟨by simp, below_drew_ (Below.refl _ _)⟩
                · obtain rfl := Option.some.inj hi
                  have e89 : a.tmps.getD 89 undef = .bool true := hD 4 (by kernel_rfl) _ 89 rfl rfl
                  refine ⟨rfl, mid_step (.bool false) wx (fun K hK => ?_) ⟨_, rfl, rfl, Below.refl _ _⟩⟩
                  go_simp
                  exact hK
                · obtain rfl := Option.some.inj hi
                  have e90 : a.tmps.getD 90 undef = .bool false := hD 5 (by kernel_rfl) _ 90 rfl rfl
                  refine ⟨rfl, mid_step (.bool false) wx (fun K hK => ?_) ⟨_, rfl, rfl, Below.refl _ _⟩⟩
                  go_simp
                  exact hK
                · obtain rfl := Option.some.inj hi
                  have e91 : a.tmps.getD 91 undef = .bool false := hD 6 (by kernel_rfl) _ 91 rfl rfl
                  have e16 : a.tmps.getD 16 undef = .slice Ao (outE L n).length co := (hM.other 16 (by decide +kernel)).trans rfl
                  refine ⟨wanted_yes 6 91 rfl rfl rfl e91, mid_step (.slice Ao (outE L n).length co) wx (fun K hK => ?_) ⟨_, rfl, rfl, Below.refl _ _⟩⟩
                  go_simp
                  exact hK
                · obtain rfl := Option.some.inj hi
                  have e91 : a.tmps.getD 91 undef = .bool false := hD 6 (by kernel_rfl) _ 91 rfl rfl
                  have e92 : a.tmps.getD 92 undef = .slice Ao (outE L n).length co := hD 7 (by kernel_rfl) _ 92 rfl rfl
                  refine ⟨wanted_yes 6 91 rfl rfl rfl e91, mid_call (fun v w' => (∃ A1 c1 B1, v = .slice A1 (outE L n).length c1 ∧ Rd w' B1 3 A1 (outE L n).length (ec (outE L n)) ∧ B1 ≤ w'.heap.size) ∧ Below wx.heap.size wx w') (fun K hK => ?_) (fun v w' h => ⟨v, rfl, h.1, h.2⟩)⟩
                  go_simp
                  refine (redges_any (c := co) (RW.out _ hM.below).2.1 hM.below.size (LNW.out.2.1)).mono ?_
                  rintro e w' ⟨A1, c1, rfl, ho, hb'⟩
                  exact hK _ _ ⟨⟨A1, c1, w'.heap.size, rfl, Rd.own ho, Nat.le_refl _⟩, hb'⟩
                · obtain rfl := Option.some.inj hi
                  have e91 : a.tmps.getD 91 undef = .bool false := hD 6 (by kernel_rfl) _ 91 rfl rfl
                  have e11 : a.tmps.getD 11 undef = .slice Da (outE L n).length da := (hM.other 11 (by decide +kernel)).trans rfl
                  refine ⟨wanted_yes 6 91 rfl rfl rfl e91, mid_step (.slice Da (outE L n).length da) wx (fun K hK => ?_) ⟨_, rfl, rfl, Below.refl _ _⟩⟩
                  go_simp
                  exact hK
                · obtain rfl := Option.some.inj hi
                  have e91 : a.tmps.getD 91 undef = .bool false := hD 6 (by kernel_rfl) _ 91 rfl rfl
                  obtain ⟨A1, c1, B1, e93, hr, hB1⟩ := hD 8 (by kernel_rfl) _ 93 rfl rfl
                  have e94 : a.tmps.getD 94 undef = .slice Da (outE L n).length da := hD 9 (by kernel_rfl) _ 94 rfl rfl
                  refine ⟨wanted_yes 6 91 rfl rfl rfl e91, mid_call (fun v w' => v = .bool true ∧ Below wx.heap.size wx w') (fun K hK => ?_) (fun v w' h => ⟨v, rfl, h.1, h.2⟩)⟩
                  go_simp
                  refine (rsamee_any hr (DW.out _ hM.below).2.1 (LNW.out.2.1)).mono ?_
                  rintro e w' ⟨rfl, q, rfl⟩
                  exact hK _ _ ⟨by simp, below_drew_ (Below.refl _ _)⟩
                · obtain rfl := Option.some.inj hi
                  have e91 : a.tmps.getD 91 undef = .bool false := hD 6 (by kernel_rfl) _ 91 rfl rfl
                  have e95 : a.tmps.getD 95 undef = .bool true := hD 10 (by kernel_rfl) _ 95 rfl rfl
                  refine ⟨wanted_yes 6 91 rfl rfl rfl e91, mid_step (.bool false) wx (fun K hK => ?_) ⟨_, rfl, rfl, Below.refl _ _⟩⟩
                  go_simp
                  exact hK
                · obtain rfl := Option.some.inj hi
                  have e91 : a.tmps.getD 91 undef = .bool false := hD 6 (by kernel_rfl) _ 91 rfl rfl
                  have e96 : a.tmps.getD 96 undef = .bool false := hD 11 (by kernel_rfl) _ 96 rfl rfl
                  refine ⟨rfl, mid_step (.bool false) wx (fun K hK => ?_) ⟨_, rfl, rfl, Below.refl _ _⟩⟩
                  go_simp
                  exact hK
                · obtain rfl := Option.some.inj hi
                  have e97 : a.tmps.getD 97 undef = .bool false := hD 12 (by kernel_rfl) _ 97 rfl rfl
                  refine ⟨rfl, mid_step (.bool false) wx (fun K hK => ?_) ⟨_, rfl, rfl, Below.refl _ _⟩⟩
                  go_simp
                  exact hK
                · obtain rfl := Option.some.inj hi
                  have e98 : a.tmps.getD 98 undef = .bool false := hD 13 (by kernel_rfl) _ 98 rfl rfl
                  have e17 : a.tmps.getD 17 undef = .slice Ai (inE L n).length ci := (hM.other 17 (by decide +kernel)).trans rfl
                  refine ⟨wanted_yes 13 98 rfl rfl rfl e98, mid_step (.slice Ai (inE L n).length ci) wx (fun K hK => ?_) ⟨_, rfl, rfl, Below.refl _ _⟩⟩
                  go_simp
                  exact hK
                · obtain rfl := Option.some.inj hi
                  have e98 : a.tmps.getD 98 undef = .bool false := hD 13 (by kernel_rfl) _ 98 rfl rfl
                  have e99 : a.tmps.getD 99 undef = .slice Ai (inE L n).length ci := hD 14 (by kernel_rfl) _ 99 rfl rfl
                  refine ⟨wanted_yes 13 98 rfl rfl rfl e98, mid_call (fun v w' => (∃ A1 c1 B1, v = .slice A1 (inE L n).length c1 ∧ Rd w' B1 3 A1 (inE L n).length (ec (inE L n)) ∧ B1 ≤ w'.heap.size) ∧ Below wx.heap.size wx w') (fun K hK => ?_) (fun v w' h => ⟨v, rfl, h.1, h.2⟩)⟩
                  go_simp
                  refine (redges_any (c := ci) (RW.out _ hM.below).2.2.1 hM.below.size (LNW.out.2.2.1)).mono ?_
                  rintro e w' ⟨A1, c1, rfl, ho, hb'⟩
                  exact hK _ _ ⟨⟨A1, c1, w'.heap.size, rfl, Rd.own ho, Nat.le_refl _⟩, hb'⟩
                · obtain rfl := Option.some.inj hi
                  have e98 : a.tmps.getD 98 undef = .bool false := hD 13 (by kernel_rfl) _ 98 rfl rfl
                  have e12 : a.tmps.getD 12 undef = .slice Db (inE L n).length db := (hM.other 12 (by decide +kernel)).trans rfl
                  refine ⟨wanted_yes 13 98 rfl rfl rfl e98, mid_step (.slice Db (inE L n).length db) wx (fun K hK => ?_) ⟨_, rfl, rfl, Below.refl _ _⟩⟩
                  go_simp
                  exact hK
                · obtain rfl := Option.some.inj hi
                  have e98 : a.tmps.getD 98 undef = .bool false := hD 13 (by kernel_rfl) _ 98 rfl rfl
                  obtain ⟨A1, c1, B1, e100, hr, hB1⟩ := hD 15 (by kernel_rfl) _ 100 rfl rfl
                  have e101 : a.tmps.getD 101 undef = .slice Db (inE L n).length db := hD 16 (by kernel_rfl) _ 101 rfl rfl
                  refine ⟨wanted_yes 13 98 rfl rfl rfl e98, mid_call (fun v w' => v = .bool true ∧ Below wx.heap.size wx w') (fun K hK => ?_) (fun v w' h => ⟨v, rfl, h.1, h.2⟩)⟩
                  go_simp
                  refine (rsamee_any hr (DW.out _ hM.below).2.2.1 (LNW.out.2.2.1)).mono ?_
                  rintro e w' ⟨rfl, q, rfl⟩
                  exact hK _ _ ⟨by simp, below_drew_ (Below.refl _ _)⟩
                · obtain rfl := Option.some.inj hi
                  have e98 : a.tmps.getD 98 undef = .bool false := hD 13 (by kernel_rfl) _ 98 rfl rfl
                  have e102 : a.tmps.getD 102 undef = .bool true := hD 17 (by kernel_rfl) _ 102 rfl rfl
                  refine ⟨wanted_yes 13 98 rfl rfl rfl e98, mid_step (.bool false) wx (fun K hK => ?_) ⟨_, rfl, rfl, Below.refl _ _⟩⟩
                  go_simp
                  exact hK
                · obtain rfl := Option.some.inj hi
                  have e98 : a.tmps.getD 98 undef = .bool false := hD 13 (by kernel_rfl) _ 98 rfl rfl
                  have e103 : a.tmps.getD 103 undef = .bool false := hD 18 (by kernel_rfl) _ 103 rfl rfl
                  refine ⟨rfl, mid_step (.bool false) wx (fun K hK => ?_) ⟨_, rfl, rfl, Below.refl _ _⟩⟩
                  go_simp
                  exact hK
                · obtain rfl := Option.some.inj hi
                  have e104 : a.tmps.getD 104 undef = .bool false := hD 19 (by kernel_rfl) _ 104 rfl rfl
                  refine ⟨rfl, mid_step (.bool false) wx (fun K hK => ?_) ⟨_, rfl, rfl, Below.refl _ _⟩⟩
                  go_simp
                  exact hK
                · obtain rfl := Option.some.inj hi
                  have e105 : a.tmps.getD 105 undef = .bool false := hD 20 (by kernel_rfl) _ 105 rfl rfl
                  have e18 : a.tmps.getD 18 undef = .slice Ab (betE L n m).length cb := (hM.other 18 (by decide +kernel)).trans rfl
                  refine ⟨wanted_yes 20 105 rfl rfl rfl e105, mid_step (.slice Ab (betE L n m).length cb) wx (fun K hK => ?_) ⟨_, rfl, rfl, Below.refl _ _⟩⟩
                  go_simp
                  exact hK
                · obtain rfl := Option.some.inj hi
                  have e105 : a.tmps.getD 105 undef = .bool false := hD 20 (by kernel_rfl) _ 105 rfl rfl
                  have e106 : a.tmps.getD 106 undef = .slice Ab (betE L n m).length cb := hD 21 (by kernel_rfl) _ 106 rfl rfl
                  refine ⟨wanted_yes 20 105 rfl rfl rfl e105, mid_call (fun v w' => (∃ A1 c1 B1, v = .slice A1 (betE L n m).length c1 ∧ Rd w' B1 3 A1 (betE L n m).length (ec (betE L n m)) ∧ B1 ≤ w'.heap.size) ∧ Below wx.heap.size wx w') (fun K hK => ?_) (fun v w' h => ⟨v, rfl, h.1, h.2⟩)⟩
                  go_simp
                  refine (redges_any (c := cb) (RW.out _ hM.below).2.2.2.1 hM.below.size (LNW.out.2.2.2.1)).mono ?_
                  rintro e w' ⟨A1, c1, rfl, ho, hb'⟩
                  exact hK _ _ ⟨⟨A1, c1, w'.heap.size, rfl, Rd.own ho, Nat.le_refl _⟩, hb'⟩
                · obtain rfl := Option.some.inj hi
                  have e105 : a.tmps.getD 105 undef = .bool false := hD 20 (by kernel_rfl) _ 105 rfl rfl
                  have e13 : a.tmps.getD 13 undef = .slice Dc (betE L n m).length dc := (hM.other 13 (by decide +kernel)).trans rfl
                  refine ⟨wanted_yes 20 105 rfl rfl rfl e105, mid_step (.slice Dc (betE L n m).length dc) wx (fun K hK => ?_) ⟨_, rfl, rfl, Below.refl _ _⟩⟩
                  go_simp
                  exact hK
                · obtain rfl := Option.some.inj hi
                  have e105 : a.tmps.getD 105 undef = .bool false := hD 20 (by kernel_rfl) _ 105 rfl rfl
                  obtain ⟨A1, c1, B1, e107, hr, hB1⟩ := hD 22 (by kernel_rfl) _ 107 rfl rfl
                  have e108 : a.tmps.getD 108 undef = .slice Dc (betE L n m).length dc := hD 23 (by kernel_rfl) _ 108 rfl rfl
                  refine ⟨wanted_yes 20 105 rfl rfl rfl e105, mid_call (fun v w' => v = .bool true ∧ Below wx.heap.size wx w') (fun K hK => ?_) (fun v w' h => ⟨v, rfl, h.1, h.2⟩)⟩
                  go_simp
                  refine (rsamee_any hr (DW.out _ hM.below).2.2.2.1 (LNW.out.2.2.2.1)).mono ?_
                  rintro e w' ⟨rfl, q, rfl⟩
                  exact hK _ _ ⟨by simp, below_drew_ (Below.refl _ _)⟩
                · obtain rfl := Option.some.inj hi
                  have e105 : a.tmps.getD 105 undef = .bool false := hD 20 (by kernel_rfl) _ 105 rfl rfl
                  have e109 : a.tmps.getD 109 undef = .bool true := hD 24 (by kernel_rfl) _ 109 rfl rfl
                  refine ⟨wanted_yes 20 105 rfl rfl rfl e105, mid_step (.bool false) wx (fun K hK => ?_) ⟨_, rfl, rfl, Below.refl _ _⟩⟩
                  go_simp
                  exact hK
                · obtain rfl := Option.some.inj hi
                  have e105 : a.tmps.getD 105 undef = .bool false := hD 20 (by kernel_rfl) _ 105 rfl rfl
                  have e110 : a.tmps.getD 110 undef = .bool false := hD 25 (by kernel_rfl) _ 110 rfl rfl
                  refine ⟨rfl, mid_step (.bool false) wx (fun K hK => ?_) ⟨_, rfl, rfl, Below.refl _ _⟩⟩
                  go_simp
                  exact hK
                · obtain rfl := Option.some.inj hi
                  have e111 : a.tmps.getD 111 undef = .bool false := hD 26 (by kernel_rfl) _ 111 rfl rfl
                  refine ⟨rfl, mid_step (.bool false) wx (fun K hK => ?_) ⟨_, rfl, rfl, Below.refl _ _⟩⟩
                  go_simp
                  exact hK
                · obtain rfl := Option.some.inj hi
                  have e112 : a.tmps.getD 112 undef = .bool false := hD 27 (by kernel_rfl) _ 112 rfl rfl
                  have e19 : a.tmps.getD 19 undef = .slice An (nextZ L n).length cn := (hM.other 19 (by decide +kernel)).trans rfl
                  refine ⟨wanted_yes 27 112 rfl rfl rfl e112, mid_step (.slice An (nextZ L n).length cn) wx (fun K hK => ?_) ⟨_, rfl, rfl, Below.refl _ _⟩⟩
                  go_simp
                  exact hK
                · obtain rfl := Option.some.inj hi
                  have e112 : a.tmps.getD 112 undef = .bool false := hD 27 (by kernel_rfl) _ 112 rfl rfl
                  have e6 : a.tmps.getD 6 undef = .pointer (some ⟨w.heap.size, 0, none⟩) := (hM.other 6 (by decide +kernel)).trans rfl
                  obtain ⟨⟨q0, q1⟩, k0, k1, k2⟩ := KB.out _ (H10.out _ hM.below)
                  refine ⟨wanted_yes 27 112 rfl rfl rfl e112, mid_step (.agg #[.int .i64 (N : Int), .slice A L.length c]) wx (fun K hK => ?_) ⟨_, rfl, rfl, Below.refl _ _⟩⟩
                  go_simp
                  exact hK
                · obtain rfl := Option.some.inj hi
                  have e112 : a.tmps.getD 112 undef = .bool false := hD 27 (by kernel_rfl) _ 112 rfl rfl
                  have e2 : a.tmps.getD 2 undef = .int .i64 n := (hM.other 2 (by decide +kernel)).trans rfl
                  refine ⟨wanted_yes 27 112 rfl rfl rfl e112, mid_step (.int .i64 n) wx (fun K hK => ?_) ⟨_, rfl, rfl, Below.refl _ _⟩⟩
                  go_simp
                  exact hK
                · obtain rfl := Option.some.inj hi
                  have e112 : a.tmps.getD 112 undef = .bool false := hD 27 (by kernel_rfl) _ 112 rfl rfl
                  have e114 : a.tmps.getD 114 undef = .agg #[.int .i64 (N : Int), .slice A L.length c] := hD 29 (by kernel_rfl) _ 114 rfl rfl
                  have e115 : a.tmps.getD 115 undef = .int .i64 n := hD 30 (by kernel_rfl) _ 115 rfl rfl
                  refine ⟨wanted_yes 27 112 rfl rfl rfl e112, mid_call (fun v w' => (∃ A1 c1 B1, v = .slice A1 (nextZ L n).length c1 ∧ Rd w' B1 1 A1 (nextZ L n).length (zc (nextZ L n)) ∧ B1 ≤ w'.heap.size) ∧ Below wx.heap.size wx w') (fun K hK => ?_) (fun v w' h => ⟨v, rfl, h.1, h.2⟩)⟩
                  go_simp
                  refine (rnext_any (c := c) (N := (N : Int)) n (GX.out _ (H10.out _ hM.below)).2.1 (GX.out _ (H10.out _ hM.below)).2.2 HLN.out).mono ?_
                  rintro e w' ⟨A1, c1, rfl, ho, hb'⟩
                  exact hK _ _ ⟨⟨A1, c1, w'.heap.size, rfl, Rd.own ho, Nat.le_refl _⟩, hb'⟩
                · obtain rfl := Option.some.inj hi
                  have e112 : a.tmps.getD 112 undef = .bool false := hD 27 (by kernel_rfl) _ 112 rfl rfl
                  have e113 : a.tmps.getD 113 undef = .slice An (nextZ L n).length cn := hD 28 (by kernel_rfl) _ 113 rfl rfl
                  obtain ⟨A1, c1, B1, e116, hr, hB1⟩ := hD 31 (by kernel_rfl) _ 116 rfl rfl
                  refine ⟨wanted_yes 27 112 rfl rfl rfl e112, mid_call (fun v w' => v = .bool true ∧ Below wx.heap.size wx w') (fun K hK => ?_) (fun v w' h => ⟨v, rfl, h.1, h.2⟩)⟩
                  go_simp
                  refine (sameZ_any _ _ _ _ _ _ _ _ _ _ (RW.out _ hM.below).2.2.2.2 hr (Nat.le_trans LNW.out.2.2.2.2 (by decide))).mono ?_
                  rintro e w' ⟨rfl, q, rfl⟩
                  exact hK _ _ ⟨rfl, below_drew_ (Below.refl _ _)⟩
                · obtain rfl := Option.some.inj hi
                  have e112 : a.tmps.getD 112 undef = .bool false := hD 27 (by kernel_rfl) _ 112 rfl rfl
                  have e117 : a.tmps.getD 117 undef = .bool true := hD 32 (by kernel_rfl) _ 117 rfl rfl
                  refine ⟨wanted_yes 27 112 rfl rfl rfl e112, mid_step (.bool false) wx (fun K hK => ?_) ⟨_, rfl, rfl, Below.refl _ _⟩⟩
                  go_simp
                  exact hK
                · obtain rfl := Option.some.inj hi
                  have e112 : a.tmps.getD 112 undef = .bool false := hD 27 (by kernel_rfl) _ 112 rfl rfl
                  have e118 : a.tmps.getD 118 undef = .bool false := hD 33 (by kernel_rfl) _ 118 rfl rfl
                  refine ⟨rfl, mid_step (.bool false) wx (fun K hK => ?_) ⟨_, rfl, rfl, Below.refl _ _⟩⟩
                  go_simp
                  exact hK
              · intro a wx hM hU hD
                have q0 := hD 0 (by decide) _ 85 rfl rfl
                obtain ⟨A1, c1, B1, e1r, hr1, hB1⟩ := hD 1 (by decide) _ 86 rfl rfl
                have q1 : a.tmps.getD 86 undef = .slice A1 (L).length c1 := by assumption
                have q2 := hD 2 (by decide) _ 87 rfl rfl
                have q3 := hD 3 (by decide) _ 88 rfl rfl
                have q4 := hD 4 (by decide) _ 89 rfl rfl
                have q5 := hD 5 (by decide) _ 90 rfl rfl
                have q6 := hD 6 (by decide) _ 91 rfl rfl
                have q7 := hD 7 (by decide) _ 92 rfl rfl
                obtain ⟨A8, c8, B8, e8r, hr8, hB8⟩ := hD 8 (by decide) _ 93 rfl rfl
                have q8 : a.tmps.getD 93 undef = .slice A8 (outE L n).length c8 := by assumption
                have q9 := hD 9 (by decide) _ 94 rfl rfl
                have q10 := hD 10 (by decide) _ 95 rfl rfl
                have q11 := hD 11 (by decide) _ 96 rfl rfl
                have q12 := hD 12 (by decide) _ 97 rfl rfl
                have q13 := hD 13 (by decide) _ 98 rfl rfl
                have q14 := hD 14 (by decide) _ 99 rfl rfl
                obtain ⟨A15, c15, B15, e15r, hr15, hB15⟩ := hD 15 (by decide) _ 100 rfl rfl
                have q15 : a.tmps.getD 100 undef = .slice A15 (inE L n).length c15 := by assumption
                have q16 := hD 16 (by decide) _ 101 rfl rfl
                have q17 := hD 17 (by decide) _ 102 rfl rfl
                have q18 := hD 18 (by decide) _ 103 rfl rfl
                have q19 := hD 19 (by decide) _ 104 rfl rfl
                have q20 := hD 20 (by decide) _ 105 rfl rfl
                have q21 := hD 21 (by decide) _ 106 rfl rfl
                obtain ⟨A22, c22, B22, e22r, hr22, hB22⟩ := hD 22 (by decide) _ 107 rfl rfl
                have q22 : a.tmps.getD 107 undef = .slice A22 (betE L n m).length c22 := by assumption
                have q23 := hD 23 (by decide) _ 108 rfl rfl
                have q24 := hD 24 (by decide) _ 109 rfl rfl
                have q25 := hD 25 (by decide) _ 110 rfl rfl
                have q26 := hD 26 (by decide) _ 111 rfl rfl
                have q27 := hD 27 (by decide) _ 112 rfl rfl
                have q28 := hD 28 (by decide) _ 113 rfl rfl
                have q29 := hD 29 (by decide) _ 114 rfl rfl
                have q30 := hD 30 (by decide) _ 115 rfl rfl
                obtain ⟨A31, c31, B31, e31r, hr31, hB31⟩ := hD 31 (by decide) _ 116 rfl rfl
                have q31 : a.tmps.getD 116 undef = .slice A31 (nextZ L n).length c31 := by assumption
                have q32 := hD 32 (by decide) _ 117 rfl rfl
                have q33 := hD 33 (by decide) _ 118 rfl rfl
                have q34 := hD 34 (by decide) _ 119 rfl rfl
                have hact := act_puts (a := a) [(85, .slice Aa (L).length ca), (86, .slice A1 (L).length c1), (87, .pointer (some ⟨w.heap.size, 1, none⟩)), (88, .slice A L.length c), (89, .bool true), (90, .bool false), (91, .bool false), (92, .slice Ao (outE L n).length co), (93, .slice A8 (outE L n).length c8), (94, .slice Da (outE L n).length da), (95, .bool true), (96, .bool false), (97, .bool false), (98, .bool false), (99, .slice Ai (inE L n).length ci), (100, .slice A15 (inE L n).length c15), (101, .slice Db (inE L n).length db), (102, .bool true), (103, .bool false), (104, .bool false), (105, .bool false), (106, .slice Ab (betE L n m).length cb), (107, .slice A22 (betE L n m).length c22), (108, .slice Dc (betE L n m).length dc), (109, .bool true), (110, .bool false), (111, .bool false), (112, .bool false), (113, .slice An (nextZ L n).length cn), (114, .agg #[.int .i64 (N : Int), .slice A L.length c]), (115, .int .i64 n), (116, .slice A31 (nextZ L n).length c31), (117, .bool true), (118, .bool false), (119, .bool false)] _ hM.tmps hM.defers (by
                  intro s v hm
                  simp only [List.mem_cons, Prod.mk.injEq, List.not_mem_nil, or_false] at hm
                  rcases hm with ⟨rfl, rfl⟩ | ⟨rfl, rfl⟩ | ⟨rfl, rfl⟩ | ⟨rfl, rfl⟩ | ⟨rfl, rfl⟩ | ⟨rfl, rfl⟩ | ⟨rfl, rfl⟩ | ⟨rfl, rfl⟩ | ⟨rfl, rfl⟩ | ⟨rfl, rfl⟩ | ⟨rfl, rfl⟩ | ⟨rfl, rfl⟩ | ⟨rfl, rfl⟩ | ⟨rfl, rfl⟩ | ⟨rfl, rfl⟩ | ⟨rfl, rfl⟩ | ⟨rfl, rfl⟩ | ⟨rfl, rfl⟩ | ⟨rfl, rfl⟩ | ⟨rfl, rfl⟩ | ⟨rfl, rfl⟩ | ⟨rfl, rfl⟩ | ⟨rfl, rfl⟩ | ⟨rfl, rfl⟩ | ⟨rfl, rfl⟩ | ⟨rfl, rfl⟩ | ⟨rfl, rfl⟩ | ⟨rfl, rfl⟩ | ⟨rfl, rfl⟩ | ⟨rfl, rfl⟩ | ⟨rfl, rfl⟩ | ⟨rfl, rfl⟩ | ⟨rfl, rfl⟩ | ⟨rfl, rfl⟩ | ⟨rfl, rfl⟩
                  · exact ⟨(by show 85 < 159; decide), q0⟩
                  · exact ⟨(by show 86 < 159; decide), q1⟩
                  · exact ⟨(by show 87 < 159; decide), q2⟩
                  · exact ⟨(by show 88 < 159; decide), q3⟩
                  · exact ⟨(by show 89 < 159; decide), q4⟩
                  · exact ⟨(by show 90 < 159; decide), q5⟩
                  · exact ⟨(by show 91 < 159; decide), q6⟩
                  · exact ⟨(by show 92 < 159; decide), q7⟩
                  · exact ⟨(by show 93 < 159; decide), q8⟩
                  · exact ⟨(by show 94 < 159; decide), q9⟩
                  · exact ⟨(by show 95 < 159; decide), q10⟩
                  · exact ⟨(by show 96 < 159; decide), q11⟩
                  · exact ⟨(by show 97 < 159; decide), q12⟩
                  · exact ⟨(by show 98 < 159; decide), q13⟩
                  · exact ⟨(by show 99 < 159; decide), q14⟩
                  · exact ⟨(by show 100 < 159; decide), q15⟩
                  · exact ⟨(by show 101 < 159; decide), q16⟩
                  · exact ⟨(by show 102 < 159; decide), q17⟩
                  · exact ⟨(by show 103 < 159; decide), q18⟩
                  · exact ⟨(by show 104 < 159; decide), q19⟩
                  · exact ⟨(by show 105 < 159; decide), q20⟩
                  · exact ⟨(by show 106 < 159; decide), q21⟩
                  · exact ⟨(by show 107 < 159; decide), q22⟩
                  · exact ⟨(by show 108 < 159; decide), q23⟩
                  · exact ⟨(by show 109 < 159; decide), q24⟩
                  · exact ⟨(by show 110 < 159; decide), q25⟩
                  · exact ⟨(by show 111 < 159; decide), q26⟩
                  · exact ⟨(by show 112 < 159; decide), q27⟩
                  · exact ⟨(by show 113 < 159; decide), q28⟩
                  · exact ⟨(by show 114 < 159; decide), q29⟩
                  · exact ⟨(by show 115 < 159; decide), q30⟩
                  · exact ⟨(by show 116 < 159; decide), q31⟩
                  · exact ⟨(by show 117 < 159; decide), q32⟩
                  · exact ⟨(by show 118 < 159; decide), q33⟩
                  · exact ⟨(by show 119 < 159; decide), q34⟩) (fun s hs => hM.other s (by exact hs))
                rw [hact]
                have hBX := hM.below
                clear hact hD hM hU q0 q1 q2 q3 q4 q5 q6 q7 q8 q9 q10 q11 q12 q13 q14 q15 q16 q17 q18 q19 q20 q21 q22 q23 q24 q25 q26 q27 q28 q29 q30 q31 q32 q33 q34
                simp only [List.foldl, Act.put, List.setIfInBounds_toArray, List.set_cons_succ, List.set_cons_zero, List.drop_succ_cons, List.drop_zero]
                have HS : Hid ((WRow W7.heap.size wx Aa (L.length * 3) ∧ WRow W7.heap.size wx Ao ((outE L n).length * 3) ∧ WRow W7.heap.size wx Ai ((inE L n).length * 3) ∧ WRow W7.heap.size wx An ((nextZ L n).length * 1)) ∧ Below W7.heap.size W7 wx) := ⟨⟨WR.out.1.below hBX, WR.out.2.1.below hBX, WR.out.2.2.1.below hBX, WR.out.2.2.2.below hBX⟩, C07.out.trans (hBX.mono C07.out.size)⟩
                clear hBX RW DW WR H10 C07 HB5
                go_wp2_with fail
                go_loopw [20] (fun z wr => ∃ k : Nat, z = .int .i64 k ∧ k ≤ (L).length ∧ Hid (WRow W7.heap.size wr Aa (L.length * 3) ∧ WRow W7.heap.size wr Ao ((outE L n).length * 3) ∧ WRow W7.heap.size wr Ai ((inE L n).length * 3) ∧ WRow W7.heap.size wr An ((nextZ L n).length * 1)) ∧ Hid (Below W7.heap.size W7 wr)) (fun z _ => (L).length - (intOf z).toNat)
                case atStart => exact ⟨0, rfl, Nat.zero_le _, HS.out.1, HS.out.2⟩
                case round =>
                  obtain ⟨k, rfl, hk, hs1, hs2⟩ := hrel
                  obtain ⟨V0, rfl⟩ : ∃ V0, V0 = wr := ⟨wr, rfl⟩
                  have hl6 := LNW.out.1
                  by_cases hlt : k < (L).length
                  · obtain ⟨g, v, hA, hg, hc, hf⟩ := hs1.out.1.at_ (k := k * 3) (by omega)
                    have hki : (k : Int) < (((L).length : Nat) : Int) := by omega
                    have hk0 : (0 : Int) ≤ (k : Int) := by omega
                    have HSN := Lib_hid (And.intro (And.intro (hs1.out.1.set (g := g) (i := k * 3) (.int .i64 77)) (And.intro (hs1.out.2.1.set (g := g) (i := k * 3) (.int .i64 77)) (And.intro (hs1.out.2.2.1.set (g := g) (i := k * 3) (.int .i64 77)) (hs1.out.2.2.2.set (g := g) (i := k * 3) (.int .i64 77))))) (hs2.out.setCell (p := ⟨g, k * 3, none⟩) hg (.int .i64 77)))
                    generalize Aa = Ay at *
                    subst hA
                    go_wp2
                    go_roundw
                    case rel => exact ⟨k + 1, by go_num, by omega, HSN.out.1, HSN.out.2⟩
                    case measure => simp [intOf]; omega
                  · obtain rfl : k = (L).length := by omega
                    have HS := Lib_hid (And.intro hs1 hs2)
                    clear hs1 hs2 hlt hk hl6
                    have HS := Lib_hid (And.intro HS.out.1.out HS.out.2.out)
                    go_wp2_with fail
                    go_loopw [21] (fun z wr => ∃ k : Nat, z = .int .i64 k ∧ k ≤ (outE L n).length ∧ Hid (WRow W7.heap.size wr Aa (L.length * 3) ∧ WRow W7.heap.size wr Ao ((outE L n).length * 3) ∧ WRow W7.heap.size wr Ai ((inE L n).length * 3) ∧ WRow W7.heap.size wr An ((nextZ L n).length * 1)) ∧ Hid (Below W7.heap.size W7 wr)) (fun z _ => (outE L n).length - (intOf z).toNat)
                    case atStart => exact ⟨0, rfl, Nat.zero_le _, HS.out.1, HS.out.2⟩
                    case round =>
                      obtain ⟨k, rfl, hk, hs1, hs2⟩ := hrel
                      obtain ⟨V0, rfl⟩ : ∃ V0, V0 = wr := ⟨wr, rfl⟩
                      have hl6 := LNW.out.2.1
                      by_cases hlt : k < (outE L n).length
                      · obtain ⟨g, v, hA, hg, hc, hf⟩ := hs1.out.2.1.at_ (k := k * 3 + 1) (by omega)
                        have hki : (k : Int) < (((outE L n).length : Nat) : Int) := by omega
                        have hk0 : (0 : Int) ≤ (k : Int) := by omega
                        have HSN := Lib_hid (And.intro (And.intro (hs1.out.1.set (g := g) (i := k * 3 + 1) (.int .i64 77)) (And.intro (hs1.out.2.1.set (g := g) (i := k * 3 + 1) (.int .i64 77)) (And.intro (hs1.out.2.2.1.set (g := g) (i := k * 3 + 1) (.int .i64 77)) (hs1.out.2.2.2.set (g := g) (i := k * 3 + 1) (.int .i64 77))))) (hs2.out.setCell (p := ⟨g, k * 3 + 1, none⟩) hg (.int .i64 77)))
                        generalize Ao = Ay at *
                        subst hA
                        go_wp2
                        go_roundw
                        case rel => exact ⟨k + 1, by go_num, by omega, HSN.out.1, HSN.out.2⟩
                        case measure => simp [intOf]; omega
                      · obtain rfl : k = (outE L n).length := by omega
                        have HS := Lib_hid (And.intro hs1 hs2)
                        clear hs1 hs2 hlt hk hl6
                        have HS := Lib_hid (And.intro HS.out.1.out HS.out.2.out)
                        go_wp2_with fail
                        go_loopw [22] (fun z wr => ∃ k : Nat, z = .int .i64 k ∧ k ≤ (inE L n).length ∧ Hid (WRow W7.heap.size wr Aa (L.length * 3) ∧ WRow W7.heap.size wr Ao ((outE L n).length * 3) ∧ WRow W7.heap.size wr Ai ((inE L n).length * 3) ∧ WRow W7.heap.size wr An ((nextZ L n).length * 1)) ∧ Hid (Below W7.heap.size W7 wr)) (fun z _ => (inE L n).length - (intOf z).toNat)
                        case atStart => exact ⟨0, rfl, Nat.zero_le _, HS.out.1, HS.out.2⟩
                        case round =>
                          obtain ⟨k, rfl, hk, hs1, hs2⟩ := hrel
                          obtain ⟨V0, rfl⟩ : ∃ V0, V0 = wr := ⟨wr, rfl⟩
                          have hl6 := LNW.out.2.2.1
                          by_cases hlt : k < (inE L n).length
                          · obtain ⟨g, v, hA, hg, hc, hf⟩ := hs1.out.2.2.1.at_ (k := k * 3 + 1) (by omega)
                            have hki : (k : Int) < (((inE L n).length : Nat) : Int) := by omega
                            have hk0 : (0 : Int) ≤ (k : Int) := by omega
                            have HSN := Lib_hid (And.intro (And.intro (hs1.out.1.set (g := g) (i := k * 3 + 1) (.int .i64 77)) (And.intro (hs1.out.2.1.set (g := g) (i := k * 3 + 1) (.int .i64 77)) (And.intro (hs1.out.2.2.1.set (g := g) (i := k * 3 + 1) (.int .i64 77)) (hs1.out.2.2.2.set (g := g) (i := k * 3 + 1) (.int .i64 77))))) (hs2.out.setCell (p := ⟨g, k * 3 + 1, none⟩) hg (.int .i64 77)))
                            generalize Ai = Ay at *
                            subst hA
                            go_wp2
                            go_roundw
                            case rel => exact ⟨k + 1, by go_num, by omega, HSN.out.1, HSN.out.2⟩
                            case measure => simp [intOf]; omega
                          · obtain rfl : k = (inE L n).length := by omega
                            have HS := Lib_hid (And.intro hs1 hs2)
                            clear hs1 hs2 hlt hk hl6
                            have HS := Lib_hid (And.intro HS.out.1.out HS.out.2.out)
                            go_wp2_with fail
                            go_loopw [23] (fun z wr => ∃ k : Nat, z = .int .i64 k ∧ k ≤ (nextZ L n).length ∧ Hid (WRow W7.heap.size wr Aa (L.length * 3) ∧ WRow W7.heap.size wr Ao ((outE L n).length * 3) ∧ WRow W7.heap.size wr Ai ((inE L n).length * 3) ∧ WRow W7.heap.size wr An ((nextZ L n).length * 1)) ∧ Hid (Below W7.heap.size W7 wr)) (fun z _ => (nextZ L n).length - (intOf z).toNat)
                            case atStart => exact ⟨0, rfl, Nat.zero_le _, HS.out.1, HS.out.2⟩
                            case round =>
                              obtain ⟨k, rfl, hk, hs1, hs2⟩ := hrel
                              obtain ⟨V0, rfl⟩ : ∃ V0, V0 = wr := ⟨wr, rfl⟩
                              have hl6 := LNW.out.2.2.2.2
                              by_cases hlt : k < (nextZ L n).length
                              · obtain ⟨g, v, hA, hg, hc, hf⟩ := hs1.out.2.2.2.at_ (k := k) (by omega)
                                have hki : (k : Int) < (((nextZ L n).length : Nat) : Int) := by omega
                                have hk0 : (0 : Int) ≤ (k : Int) := by omega
                                have HSN := Lib_hid (And.intro (And.intro (hs1.out.1.set (g := g) (i := k) (.int .i64 77)) (And.intro (hs1.out.2.1.set (g := g) (i := k) (.int .i64 77)) (And.intro (hs1.out.2.2.1.set (g := g) (i := k) (.int .i64 77)) (hs1.out.2.2.2.set (g := g) (i := k) (.int .i64 77))))) (hs2.out.setCell (p := ⟨g, k, none⟩) hg (.int .i64 77)))
                                generalize An = Ay at *
                                subst hA
                                go_wp2
                                go_roundw
                                case rel => exact ⟨k + 1, by go_num, by omega, HSN.out.1, HSN.out.2⟩
                                case measure => simp [intOf]; omega
                              · obtain rfl : k = (nextZ L n).length := by omega
                                have HS := Lib_hid (And.intro hs1 hs2)
                                clear hs1 hs2 hlt hk hl6
                                go_wp2
                                go_roundw
                                case rel => exact ⟨t + 1, by go_num, by omega, hbt.out.trans (HS.out.2.out.mono hbt.out.size)⟩
                                case measure => simp [intOf]; omega
            · obtain rfl : t = 2 := by omega
              have hb9 := Lib_hid (HBW.out _ (H66.out _ hbt.out))
              go_wp2
              go_ret
              exact ⟨rfl, hb9.out⟩

end Go.Proofs.Ytopecdkkmbpnbaa
