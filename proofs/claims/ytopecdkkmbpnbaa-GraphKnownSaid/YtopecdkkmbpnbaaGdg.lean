/-
  Layer 13: the document's Back.
-/
import Derived.Test.YtopecdkkmbpnbaaGdf
import Derived.Test.YtopecdkkmbpnbaaGrj
namespace Go.Proofs.Ytopecdkkmbpnbaa
open Go Go.RowKit Go.Maps
set_option linter.unusedVariables false

theorem own_mono' {w : World} {base base' n size : Nat} {e : TypeId} {v : Value} {xs : List Value} (h : w.ownsRow base e size v n xs) (hb : base' ≤ base) : w.ownsRow base' e size v n xs :=
  ⟨h.1, h.2.imp id fun ⟨g, cap, cur, h1, h2, h3⟩ => ⟨g, cap, cur, h1, Nat.le_trans hb h2, h3⟩⟩
theorem backE_succ {L : List Ed} (hL : L.Nodup) {k : Nat} (hk : k < L.length) : backE (L.take (k + 1)) = insE (backE (L.take k)) (swE (at3 L k)) := by
  have hno : swE (at3 L k) ∉ backE (L.take k) := fun hc => by
    have h1 := mem_backE.1 hc
    have h2 : swE (swE (at3 L k)) = at3 L k := rfl
    rw [h2] at h1
    rw [← List.take_append_drop (k + 1) L, take_snoc3 hk] at hL
    have h3 := (List.nodup_append.1 (List.nodup_append.1 hL).1).2.2 _ h1 _ (List.mem_singleton.2 rfl)
    exact h3 rfl
  unfold backE at hno ⊢
  rw [take_snoc3 hk, List.map_append, List.map_singleton, addEs_snoc]
  exact if_neg hno
theorem backE_len {L : List Ed} (hL : L.Nodup) : ∀ k, k ≤ L.length → (backE (L.take k)).length = k
  | 0, _ => rfl
  | k + 1, h => by rw [backE_succ hL h, len_insE, backE_len hL k (by omega)]

set_option maxRecDepth 100000 in
set_option maxHeartbeats 3200000 in
theorem rback_any {w : World} {B n c : Nat} {A : Option Addr} {L : List Ed} {N : Nat} (h : Rd w B 3 A n (ec L)) (hB : B ≤ w.heap.size) (hn : n ≤ 1000000) (hL : L.Nodup) :
    Calls Try.prog 26 #[.agg #[.int .i64 (N : Int), .slice A n c]] w (RgE N (backE L) w) := by
  have HC := Lib_hid (rde_count h)
  have HI := Lib_hid (fun (W : World) (hW : Below w.heap.size w W) (i : Nat) (hi : i < n) => e_at (h.below (hW.mono hB)) hi)
  have HS : Hid (∀ k, k < n → backE (L.take (k + 1)) = insE (backE (L.take k)) ((at3 L k).2.1, (at3 L k).1, (at3 L k).2.2)) := fun k hk => backE_succ hL (by rw [HC.out]; exact hk)
  have HLN : Hid (∀ k, k ≤ n → (backE (L.take k)).length = k) := fun k hk => backE_len hL k (by rw [HC.out]; exact hk)
  have HN := Lib_hid hn
  obtain ⟨W, hW⟩ : ∃ W, W = ((w.alloc (.cells #[.int .i64 (N : Int), .slice A n c] 31)).alloc (.cells #[.int .i64 0, .slice none 0 0] 31)).alloc (.cells #[.int .i64 (N : Int), .slice none 0 0] 31) := ⟨_, rfl⟩
  have b1 := below_new w (.cells #[.int .i64 (N : Int), .slice A n c] 31)
  have x1 := heap_alloc_new w (.cells #[.int .i64 (N : Int), .slice A n c] 31)
  have s1 : (w.alloc (.cells #[.int .i64 (N : Int), .slice A n c] 31)).heap.size = w.heap.size + 1 := by simp
  obtain ⟨wa, hwa⟩ : ∃ wa, wa = w.alloc (.cells #[.int .i64 (N : Int), .slice A n c] 31) := ⟨_, rfl⟩
  rw [← hwa] at b1 x1 s1 hW
  have b2 := below_new wa (.cells #[.int .i64 0, .slice none 0 0] 31)
  have x2 := heap_alloc_new wa (.cells #[.int .i64 0, .slice none 0 0] 31)
  have s2 : (wa.alloc (.cells #[.int .i64 0, .slice none 0 0] 31)).heap.size = w.heap.size + 1 + 1 := by simp [s1]
  obtain ⟨wb, hwb⟩ : ∃ wb, wb = wa.alloc (.cells #[.int .i64 0, .slice none 0 0] 31) := ⟨_, rfl⟩
  rw [← hwb] at b2 x2 s2 hW
  have b3 := below_new wb (.cells #[.int .i64 (N : Int), .slice none 0 0] 31)
  have x3 := heap_alloc_new wb (.cells #[.int .i64 (N : Int), .slice none 0 0] 31)
  have s3 : (wb.alloc (.cells #[.int .i64 (N : Int), .slice none 0 0] 31)).heap.size = w.heap.size + 1 + 1 + 1 := by simp [s2]
  rw [← hW] at b3 x3 s3
  rw [s2] at x3
  rw [s1] at x2
  have HQ : Hid (W.heap[w.heap.size]? = some (.cells #[.int .i64 (N : Int), .slice A n c] 31 (0, 0)) ∧ W.heap[w.heap.size + 1]? = some (.cells #[.int .i64 0, .slice none 0 0] 31 (0, 0)) ∧ W.heap[w.heap.size + 1 + 1]? = some (.cells #[.int .i64 (N : Int), .slice none 0 0] 31 (0, 0)) ∧ Below w.heap.size w W ∧ W.heap.size = w.heap.size + 3) :=
    ⟨(b3.block _ (by omega)).trans ((b2.block _ (by omega)).trans x1), (b3.block _ (by omega)).trans x2, x3, (b1.trans (b2.mono b1.size)).trans (b3.mono (b1.trans (b2.mono b1.size)).size), by omega⟩
  clear b1 b2 b3 x1 x2 x3 s1 s2 s3 h hL
  go_enter Try.func26, Try.ntmps26
  go_upto_region 2 with (fail)
  rw [← hwa, ← hwb, ← hW]
  clear hwa hwb hW
  go_wp2
  go_loopw [4] (fun i wr => ∃ (k c' : Nat) (A' : Option Addr) (X : List Ed), i = .int .i64 k ∧ k ≤ n ∧ Hid (X = backE (L.take k)) ∧ Hid (wr.heap[w.heap.size]? = some (.cells #[.int .i64 (N : Int), .slice A n c] 31 (0, 0)) ∧ wr.heap[w.heap.size + 1]? = some (.cells #[.int .i64 0, .slice none 0 0] 31 (0, 0)) ∧ wr.heap[w.heap.size + 1 + 1]? = some (.cells #[.int .i64 (N : Int), .slice A' k c'] 31 (0, 0)) ∧ wr.ownsRow (w.heap.size + 3) 48 3 (.slice A' k c') k (ec X) ∧ Below w.heap.size w wr)) (fun i _ => n - (intOf i).toNat)
  case atStart => exact ⟨0, 0, none, [], rfl, Nat.zero_le _, rfl, ⟨HQ.out.1, HQ.out.2.1, HQ.out.2.2.1, own_zero _ _ _ _, HQ.out.2.2.2.1⟩⟩
  case round =>
    clear HQ
    obtain ⟨k, c', A', X, rfl, hk, hX, hV⟩ := hrel
    have g1 := cell_of_row _ _ 1 _ _ _ hV.out.1
    by_cases hlt : k < n
    · obtain ⟨b, off, hA, _, _, _, _⟩ := HI.out _ hV.out.2.2.2.2 k hlt
      have hIJ := Lib_hid (fun (V : World) (hV : Below w.heap.size w V) => HI.out V hV k hlt)
      subst hA
      have hsz3 : w.heap.size + 2 < wr.heap.size := (Array.getElem?_eq_some_iff.1 hV.out.2.2.1).1
      have hbk := HS.out k hlt
      rw [← hX.out] at hbk
      have hln := HLN.out (k + 1) hlt
      rw [hbk] at hln
      have hm6 : k ≤ 1000000 := by have := HN.out; omega
      have HWI : Hid (∀ V : World, Below wr.heap.size wr V → Calls Try.prog 41 #[.agg #[.int .i64 (N : Int), .slice A' k c'], .agg #[.int .i64 (at3 L k).2.1, .int .i64 (at3 L k).1, .int .i64 (at3 L k).2.2]] V (fun r w' => (∃ (A4 : Option Addr) (c4 : Nat), r = .returned (.agg #[.int .i64 (N : Int), .slice A4 (k + 1) c4]) ∧ w'.ownsRow (w.heap.size + 3) 48 3 (.slice A4 (k + 1) c4) (k + 1) (ec (insE X ((at3 L k).2.1, (at3 L k).1, (at3 L k).2.2)))) ∧ Below V.heap.size V w')) := fun V hb => by
        have := rwith_any (c := c') (N : Int) ((Rd.own hV.out.2.2.2.1).below hb) hb.size hm6 ((at3 L k).2.1, (at3 L k).1, (at3 L k).2.2)
        refine this.mono ?_
        rintro r w' ⟨A4, c4, rfl, ho, hb'⟩
        rw [hln] at ho ⊢
        exact ⟨⟨A4, c4, rfl, own_mono' ho (by have := hb.size; omega)⟩, hb'⟩
      have KC : Hid (∀ V : World, Below wr.heap.size wr V → (V.cell? ⟨w.heap.size, 1, none⟩ = some (.slice (some ⟨b, off, none⟩) n c) ∧ V.cell? ⟨w.heap.size + 1 + 1, 0, none⟩ = some (.int .i64 (N : Int)) ∧ V.cell? ⟨w.heap.size + 1 + 1, 1, none⟩ = some (.slice A' k c')) ∧ V.cell? ⟨b, off + k * 3, none⟩ = some (.int .i64 (at3 L k).1) ∧ V.cell? ⟨b, off + k * 3 + 1, none⟩ = some (.int .i64 (at3 L k).2.1) ∧ V.cell? ⟨b, off + k * 3 + 2, none⟩ = some (.int .i64 (at3 L k).2.2)) := fun V hb => by
        have h1 := (hb.block w.heap.size (by omega)).trans hV.out.1
        have h2 := (hb.block (w.heap.size + 1 + 1) (by omega)).trans hV.out.2.2.1
        obtain ⟨b', o', e', _, c0, c1, c2'⟩ := hIJ.out V (hV.out.2.2.2.2.trans (hb.mono (by omega)))
        simp only [Option.some.injEq, Addr.mk.injEq, and_true] at e'
        obtain ⟨rfl, rfl⟩ := e'
        exact ⟨⟨cell_of_row _ _ 1 _ _ _ h1, cell_of_row _ _ 0 _ _ _ h2, cell_of_row _ _ 1 _ _ _ h2⟩, c0, c1, c2'⟩
      have HBK := Lib_hid hbk
      have HSZ := Lib_hid hsz3
      clear hbk hln hsz3 hm6 hIJ
      generalize (at3 L k).1 = a1 at *
      generalize (at3 L k).2.1 = a2 at *
      generalize (at3 L k).2.2 = a3 at *
      have hki : (k : Int) < (n : Int) := by omega
      have hk0 : (0 : Int) ≤ (k : Int) := by omega
      have hn6 : n ≤ 1000000 := HN.out
      go_wp2
      refine wp_region_midT (N := 37) 21 (fun i v ww => ([fun v ww => v = .agg #[.int .i64 (N : Int), .slice A' k c'], fun v ww => v = .pointer (some ⟨w.heap.size, 1, none⟩), fun v ww => v = .slice (some ⟨b, off, none⟩) n c, fun v ww => v = .int .i64 (k : Int), fun v ww => v = .pointer (some ⟨b, off + k * 3, none⟩), fun v ww => v = .pointer (some ⟨b, off + k * 3 + 1, none⟩), fun v ww => v = .int .i64 a2, fun v ww => v = .pointer (some ⟨w.heap.size, 1, none⟩), fun v ww => v = .slice (some ⟨b, off, none⟩) n c, fun v ww => v = .int .i64 (k : Int), fun v ww => v = .pointer (some ⟨b, off + k * 3, none⟩), fun v ww => v = .pointer (some ⟨b, off + k * 3, none⟩), fun v ww => v = .int .i64 a1, fun v ww => v = .pointer (some ⟨w.heap.size, 1, none⟩), fun v ww => v = .slice (some ⟨b, off, none⟩) n c, fun v ww => v = .int .i64 (k : Int), fun v ww => v = .pointer (some ⟨b, off + k * 3, none⟩), fun v ww => v = .pointer (some ⟨b, off + k * 3 + 2, none⟩), fun v ww => v = .int .i64 a3, fun v ww => v = .agg #[.int .i64 a2, .int .i64 a1, .int .i64 a3], fun v ww => ∃ (A4 : Option Addr) (c4 : Nat), v = .agg #[.int .i64 (N : Int), .slice A4 (k + 1) c4] ∧ ww.ownsRow (w.heap.size + 3) 48 3 (.slice A4 (k + 1) c4) (k + 1) (ec (insE X (a2, a1, a3)))] : List (Value → World → Prop)).getD i (fun _ _ => True) v ww) (by kernel_rfl) (by kernel_rfl) (by kernel_rfl) rfl ?_ ?_ ?_
      · intro i v wa wb h0 hb hp
        by_cases hi : i < 21
        · have hcase : i = 0 ∨ i = 1 ∨ i = 2 ∨ i = 3 ∨ i = 4 ∨ i = 5 ∨ i = 6 ∨ i = 7 ∨ i = 8 ∨ i = 9 ∨ i = 10 ∨ i = 11 ∨ i = 12 ∨ i = 13 ∨ i = 14 ∨ i = 15 ∨ i = 16 ∨ i = 17 ∨ i = 18 ∨ i = 19 ∨ i = 20 := by omega
          rcases hcase with rfl | rfl | rfl | rfl | rfl | rfl | rfl | rfl | rfl | rfl | rfl | rfl | rfl | rfl | rfl | rfl | rfl | rfl | rfl | rfl | rfl
          · exact hp
          · exact hp
          · exact hp
          · exact hp
          · exact hp
          · exact hp
          · exact hp
          · exact hp
          · exact hp
          · exact hp
          · exact hp
          · exact hp
          · exact hp
          · exact hp
          · exact hp
          · exact hp
          · exact hp
          · exact hp
          · exact hp
          · exact hp
          · obtain ⟨A4, c4, e, ho⟩ := hp
            exact ⟨A4, c4, e, own_below ho hb (own_lt ho)⟩
        · have hnn : ([fun v ww => v = .agg #[.int .i64 (N : Int), .slice A' k c'], fun v ww => v = .pointer (some ⟨w.heap.size, 1, none⟩), fun v ww => v = .slice (some ⟨b, off, none⟩) n c, fun v ww => v = .int .i64 (k : Int), fun v ww => v = .pointer (some ⟨b, off + k * 3, none⟩), fun v ww => v = .pointer (some ⟨b, off + k * 3 + 1, none⟩), fun v ww => v = .int .i64 a2, fun v ww => v = .pointer (some ⟨w.heap.size, 1, none⟩), fun v ww => v = .slice (some ⟨b, off, none⟩) n c, fun v ww => v = .int .i64 (k : Int), fun v ww => v = .pointer (some ⟨b, off + k * 3, none⟩), fun v ww => v = .pointer (some ⟨b, off + k * 3, none⟩), fun v ww => v = .int .i64 a1, fun v ww => v = .pointer (some ⟨w.heap.size, 1, none⟩), fun v ww => v = .slice (some ⟨b, off, none⟩) n c, fun v ww => v = .int .i64 (k : Int), fun v ww => v = .pointer (some ⟨b, off + k * 3, none⟩), fun v ww => v = .pointer (some ⟨b, off + k * 3 + 2, none⟩), fun v ww => v = .int .i64 a3, fun v ww => v = .agg #[.int .i64 a2, .int .i64 a1, .int .i64 a3], fun v ww => ∃ (A4 : Option Addr) (c4 : Nat), v = .agg #[.int .i64 (N : Int), .slice A4 (k + 1) c4] ∧ ww.ownsRow (w.heap.size + 3) 48 3 (.slice A4 (k + 1) c4) (k + 1) (ec (insE X (a2, a1, a3)))] : List (Value → World → Prop))[i]? = none := List.getElem?_eq_none (by simpa using hi)
          rw [List.getD_eq_getElem?_getD, hnn]
          trivial
      · intro i o a wx hi8 hi hM hD
        have hcase : i = 0 ∨ i = 1 ∨ i = 2 ∨ i = 3 ∨ i = 4 ∨ i = 5 ∨ i = 6 ∨ i = 7 ∨ i = 8 ∨ i = 9 ∨ i = 10 ∨ i = 11 ∨ i = 12 ∨ i = 13 ∨ i = 14 ∨ i = 15 ∨ i = 16 ∨ i = 17 ∨ i = 18 ∨ i = 19 ∨ i = 20 := by omega
        clear hi8
        rcases hcase with rfl | rfl | rfl | rfl | rfl | rfl | rfl | rfl | rfl | rfl | rfl | rfl | rfl | rfl | rfl | rfl | rfl | rfl | rfl | rfl | rfl
        · obtain rfl := Option.some.inj hi
          have e3 : a.tmps.getD 3 undef = .pointer (some ⟨w.heap.size + 1 + 1, 0, none⟩) := (hM.other 3 (by decide +kernel)).trans rfl
          obtain ⟨⟨g1, h0, h1⟩, c0, c1, c2⟩ := KC.out wx hM.below
          refine ⟨rfl, mid_step (.agg #[.int .i64 (N : Int), .slice A' k c']) wx (fun K hK => ?_) ⟨_, rfl, rfl, Below.refl _ _⟩⟩
          go_simp
          exact hK
        · obtain rfl := Option.some.inj hi
          have e1 : a.tmps.getD 1 undef = .pointer (some ⟨w.heap.size, 0, none⟩) := (hM.other 1 (by decide +kernel)).trans rfl
          refine ⟨rfl, mid_step (.pointer (some ⟨w.heap.size, 1, none⟩)) wx (fun K hK => ?_) ⟨_, rfl, rfl, Below.refl _ _⟩⟩
          go_simp
          exact hK
        · obtain rfl := Option.some.inj hi
          have e16 : a.tmps.getD 16 undef = .pointer (some ⟨w.heap.size, 1, none⟩) := hD 1 (by kernel_rfl) _ 16 rfl rfl
          obtain ⟨⟨g1, h0, h1⟩, c0, c1, c2⟩ := KC.out wx hM.below
          refine ⟨rfl, mid_step (.slice (some ⟨b, off, none⟩) n c) wx (fun K hK => ?_) ⟨_, rfl, rfl, Below.refl _ _⟩⟩
          go_simp
          exact hK
        · obtain rfl := Option.some.inj hi
          have e4 : a.tmps.getD 4 undef = .int .i64 (k : Int) := (hM.other 4 (by decide +kernel)).trans rfl
          refine ⟨rfl, mid_step (.int .i64 (k : Int)) wx (fun K hK => ?_) ⟨_, rfl, rfl, Below.refl _ _⟩⟩
          go_simp
          exact hK
        · obtain rfl := Option.some.inj hi
          have e17 : a.tmps.getD 17 undef = .slice (some ⟨b, off, none⟩) n c := hD 2 (by kernel_rfl) _ 17 rfl rfl
          have e18 : a.tmps.getD 18 undef = .int .i64 (k : Int) := hD 3 (by kernel_rfl) _ 18 rfl rfl
          refine ⟨rfl, mid_step (.pointer (some ⟨b, off + k * 3, none⟩)) wx (fun K hK => ?_) ⟨_, rfl, rfl, Below.refl _ _⟩⟩
          go_simp
          exact hK
        · obtain rfl := Option.some.inj hi
          have e19 : a.tmps.getD 19 undef = .pointer (some ⟨b, off + k * 3, none⟩) := hD 4 (by kernel_rfl) _ 19 rfl rfl
          refine ⟨rfl, mid_step (.pointer (some ⟨b, off + k * 3 + 1, none⟩)) wx (fun K hK => ?_) ⟨_, rfl, rfl, Below.refl _ _⟩⟩
          go_simp
          exact hK
        · obtain rfl := Option.some.inj hi
          have e20 : a.tmps.getD 20 undef = .pointer (some ⟨b, off + k * 3 + 1, none⟩) := hD 5 (by kernel_rfl) _ 20 rfl rfl
          obtain ⟨⟨g1, h0, h1⟩, c0, c1, c2⟩ := KC.out wx hM.below
          refine ⟨rfl, mid_step (.int .i64 a2) wx (fun K hK => ?_) ⟨_, rfl, rfl, Below.refl _ _⟩⟩
          go_simp
          exact hK
        · obtain rfl := Option.some.inj hi
          have e1 : a.tmps.getD 1 undef = .pointer (some ⟨w.heap.size, 0, none⟩) := (hM.other 1 (by decide +kernel)).trans rfl
          refine ⟨rfl, mid_step (.pointer (some ⟨w.heap.size, 1, none⟩)) wx (fun K hK => ?_) ⟨_, rfl, rfl, Below.refl _ _⟩⟩
          go_simp
          exact hK
        · obtain rfl := Option.some.inj hi
          have e22 : a.tmps.getD 22 undef = .pointer (some ⟨w.heap.size, 1, none⟩) := hD 7 (by kernel_rfl) _ 22 rfl rfl
          obtain ⟨⟨g1, h0, h1⟩, c0, c1, c2⟩ := KC.out wx hM.below
          refine ⟨rfl, mid_step (.slice (some ⟨b, off, none⟩) n c) wx (fun K hK => ?_) ⟨_, rfl, rfl, Below.refl _ _⟩⟩
          go_simp
          exact hK
        · obtain rfl := Option.some.inj hi
          have e4 : a.tmps.getD 4 undef = .int .i64 (k : Int) := (hM.other 4 (by decide +kernel)).trans rfl
          refine ⟨rfl, mid_step (.int .i64 (k : Int)) wx (fun K hK => ?_) ⟨_, rfl, rfl, Below.refl _ _⟩⟩
          go_simp
          exact hK
        · obtain rfl := Option.some.inj hi
          have e23 : a.tmps.getD 23 undef = .slice (some ⟨b, off, none⟩) n c := hD 8 (by kernel_rfl) _ 23 rfl rfl
          have e24 : a.tmps.getD 24 undef = .int .i64 (k : Int) := hD 9 (by kernel_rfl) _ 24 rfl rfl
          refine ⟨rfl, mid_step (.pointer (some ⟨b, off + k * 3, none⟩)) wx (fun K hK => ?_) ⟨_, rfl, rfl, Below.refl _ _⟩⟩
          go_simp
          exact hK
        · obtain rfl := Option.some.inj hi
          have e25 : a.tmps.getD 25 undef = .pointer (some ⟨b, off + k * 3, none⟩) := hD 10 (by kernel_rfl) _ 25 rfl rfl
          refine ⟨rfl, mid_step (.pointer (some ⟨b, off + k * 3, none⟩)) wx (fun K hK => ?_) ⟨_, rfl, rfl, Below.refl _ _⟩⟩
          go_simp
          exact hK
        · obtain rfl := Option.some.inj hi
          have e26 : a.tmps.getD 26 undef = .pointer (some ⟨b, off + k * 3, none⟩) := hD 11 (by kernel_rfl) _ 26 rfl rfl
          obtain ⟨⟨g1, h0, h1⟩, c0, c1, c2⟩ := KC.out wx hM.below
          refine ⟨rfl, mid_step (.int .i64 a1) wx (fun K hK => ?_) ⟨_, rfl, rfl, Below.refl _ _⟩⟩
          go_simp
          exact hK
        · obtain rfl := Option.some.inj hi
          have e1 : a.tmps.getD 1 undef = .pointer (some ⟨w.heap.size, 0, none⟩) := (hM.other 1 (by decide +kernel)).trans rfl
          refine ⟨rfl, mid_step (.pointer (some ⟨w.heap.size, 1, none⟩)) wx (fun K hK => ?_) ⟨_, rfl, rfl, Below.refl _ _⟩⟩
          go_simp
          exact hK
        · obtain rfl := Option.some.inj hi
          have e28 : a.tmps.getD 28 undef = .pointer (some ⟨w.heap.size, 1, none⟩) := hD 13 (by kernel_rfl) _ 28 rfl rfl
          obtain ⟨⟨g1, h0, h1⟩, c0, c1, c2⟩ := KC.out wx hM.below
          refine ⟨rfl, mid_step (.slice (some ⟨b, off, none⟩) n c) wx (fun K hK => ?_) ⟨_, rfl, rfl, Below.refl _ _⟩⟩
          go_simp
          exact hK
        · obtain rfl := Option.some.inj hi
          have e4 : a.tmps.getD 4 undef = .int .i64 (k : Int) := (hM.other 4 (by decide +kernel)).trans rfl
          refine ⟨rfl, mid_step (.int .i64 (k : Int)) wx (fun K hK => ?_) ⟨_, rfl, rfl, Below.refl _ _⟩⟩
          go_simp
          exact hK
        · obtain rfl := Option.some.inj hi
          have e29 : a.tmps.getD 29 undef = .slice (some ⟨b, off, none⟩) n c := hD 14 (by kernel_rfl) _ 29 rfl rfl
          have e30 : a.tmps.getD 30 undef = .int .i64 (k : Int) := hD 15 (by kernel_rfl) _ 30 rfl rfl
          refine ⟨rfl, mid_step (.pointer (some ⟨b, off + k * 3, none⟩)) wx (fun K hK => ?_) ⟨_, rfl, rfl, Below.refl _ _⟩⟩
          go_simp
          exact hK
        · obtain rfl := Option.some.inj hi
          have e31 : a.tmps.getD 31 undef = .pointer (some ⟨b, off + k * 3, none⟩) := hD 16 (by kernel_rfl) _ 31 rfl rfl
          refine ⟨rfl, mid_step (.pointer (some ⟨b, off + k * 3 + 2, none⟩)) wx (fun K hK => ?_) ⟨_, rfl, rfl, Below.refl _ _⟩⟩
          go_simp
          exact hK
        · obtain rfl := Option.some.inj hi
          have e32 : a.tmps.getD 32 undef = .pointer (some ⟨b, off + k * 3 + 2, none⟩) := hD 17 (by kernel_rfl) _ 32 rfl rfl
          obtain ⟨⟨g1, h0, h1⟩, c0, c1, c2⟩ := KC.out wx hM.below
          refine ⟨rfl, mid_step (.int .i64 a3) wx (fun K hK => ?_) ⟨_, rfl, rfl, Below.refl _ _⟩⟩
          go_simp
          exact hK
        · obtain rfl := Option.some.inj hi
          have e21 : a.tmps.getD 21 undef = .int .i64 a2 := hD 6 (by kernel_rfl) _ 21 rfl rfl
          have e27 : a.tmps.getD 27 undef = .int .i64 a1 := hD 12 (by kernel_rfl) _ 27 rfl rfl
          have e33 : a.tmps.getD 33 undef = .int .i64 a3 := hD 18 (by kernel_rfl) _ 33 rfl rfl
          have f21 := e21
          have f27 := e27
          have f33 := e33
          rw [Array.getD_eq_getD_getElem?] at f21 f27 f33
          refine ⟨rfl, mid_step (.agg #[.int .i64 a2, .int .i64 a1, .int .i64 a3]) wx (fun K hK => ?_) ⟨_, rfl, rfl, Below.refl _ _⟩⟩
          go_simp
          exact hK
        · obtain rfl := Option.some.inj hi
          have e15 : a.tmps.getD 15 undef = .agg #[.int .i64 (N : Int), .slice A' k c'] := hD 0 (by kernel_rfl) _ 15 rfl rfl
          have e34 : a.tmps.getD 34 undef = .agg #[.int .i64 a2, .int .i64 a1, .int .i64 a3] := hD 19 (by kernel_rfl) _ 34 rfl rfl
          refine ⟨rfl, mid_call (fun v w' => (∃ (A4 : Option Addr) (c4 : Nat), v = .agg #[.int .i64 (N : Int), .slice A4 (k + 1) c4] ∧ w'.ownsRow (w.heap.size + 3) 48 3 (.slice A4 (k + 1) c4) (k + 1) (ec (insE X (a2, a1, a3)))) ∧ Below wx.heap.size wx w') (fun K hK => ?_) (fun v w' h => ⟨v, rfl, h.1, h.2⟩)⟩
          go_simp
          refine (HWI.out wx hM.below).mono ?_
          rintro e w' ⟨⟨A4, c4, rfl, ho'⟩, hb'⟩
          exact hK _ _ ⟨⟨A4, c4, rfl, ho'⟩, hb'⟩
      · intro a wx hM hU hD
        have q0 := hD 0 (by decide) _ 15 rfl rfl
        have q1 := hD 1 (by decide) _ 16 rfl rfl
        have q2 := hD 2 (by decide) _ 17 rfl rfl
        have q3 := hD 3 (by decide) _ 18 rfl rfl
        have q4 := hD 4 (by decide) _ 19 rfl rfl
        have q5 := hD 5 (by decide) _ 20 rfl rfl
        have q6 := hD 6 (by decide) _ 21 rfl rfl
        have q7 := hD 7 (by decide) _ 22 rfl rfl
        have q8 := hD 8 (by decide) _ 23 rfl rfl
        have q9 := hD 9 (by decide) _ 24 rfl rfl
        have q10 := hD 10 (by decide) _ 25 rfl rfl
        have q11 := hD 11 (by decide) _ 26 rfl rfl
        have q12 := hD 12 (by decide) _ 27 rfl rfl
        have q13 := hD 13 (by decide) _ 28 rfl rfl
        have q14 := hD 14 (by decide) _ 29 rfl rfl
        have q15 := hD 15 (by decide) _ 30 rfl rfl
        have q16 := hD 16 (by decide) _ 31 rfl rfl
        have q17 := hD 17 (by decide) _ 32 rfl rfl
        have q18 := hD 18 (by decide) _ 33 rfl rfl
        have q19 := hD 19 (by decide) _ 34 rfl rfl
        obtain ⟨A4, c4, e20, ho4⟩ := hD 20 (by decide) _ 35 rfl rfl
        have q20 : a.tmps.getD 35 undef = .agg #[.int .i64 (N : Int), .slice A4 (k + 1) c4] := by assumption
        have hact := act_puts (a := a) [(15, .agg #[.int .i64 (N : Int), .slice A' k c']), (16, .pointer (some ⟨w.heap.size, 1, none⟩)), (17, .slice (some ⟨b, off, none⟩) n c), (18, .int .i64 (k : Int)), (19, .pointer (some ⟨b, off + k * 3, none⟩)), (20, .pointer (some ⟨b, off + k * 3 + 1, none⟩)), (21, .int .i64 a2), (22, .pointer (some ⟨w.heap.size, 1, none⟩)), (23, .slice (some ⟨b, off, none⟩) n c), (24, .int .i64 (k : Int)), (25, .pointer (some ⟨b, off + k * 3, none⟩)), (26, .pointer (some ⟨b, off + k * 3, none⟩)), (27, .int .i64 a1), (28, .pointer (some ⟨w.heap.size, 1, none⟩)), (29, .slice (some ⟨b, off, none⟩) n c), (30, .int .i64 (k : Int)), (31, .pointer (some ⟨b, off + k * 3, none⟩)), (32, .pointer (some ⟨b, off + k * 3 + 2, none⟩)), (33, .int .i64 a3), (34, .agg #[.int .i64 a2, .int .i64 a1, .int .i64 a3]), (35, .agg #[.int .i64 (N : Int), .slice A4 (k + 1) c4])] _ hM.tmps hM.defers (by
          intro s v hm
          simp only [List.mem_cons, Prod.mk.injEq, List.not_mem_nil, or_false] at hm
          rcases hm with ⟨rfl, rfl⟩ | ⟨rfl, rfl⟩ | ⟨rfl, rfl⟩ | ⟨rfl, rfl⟩ | ⟨rfl, rfl⟩ | ⟨rfl, rfl⟩ | ⟨rfl, rfl⟩ | ⟨rfl, rfl⟩ | ⟨rfl, rfl⟩ | ⟨rfl, rfl⟩ | ⟨rfl, rfl⟩ | ⟨rfl, rfl⟩ | ⟨rfl, rfl⟩ | ⟨rfl, rfl⟩ | ⟨rfl, rfl⟩ | ⟨rfl, rfl⟩ | ⟨rfl, rfl⟩ | ⟨rfl, rfl⟩ | ⟨rfl, rfl⟩ | ⟨rfl, rfl⟩ | ⟨rfl, rfl⟩
          · exact ⟨(by show 15 < 37; decide), q0⟩
          · exact ⟨(by show 16 < 37; decide), q1⟩
          · exact ⟨(by show 17 < 37; decide), q2⟩
          · exact ⟨(by show 18 < 37; decide), q3⟩
          · exact ⟨(by show 19 < 37; decide), q4⟩
          · exact ⟨(by show 20 < 37; decide), q5⟩
          · exact ⟨(by show 21 < 37; decide), q6⟩
          · exact ⟨(by show 22 < 37; decide), q7⟩
          · exact ⟨(by show 23 < 37; decide), q8⟩
          · exact ⟨(by show 24 < 37; decide), q9⟩
          · exact ⟨(by show 25 < 37; decide), q10⟩
          · exact ⟨(by show 26 < 37; decide), q11⟩
          · exact ⟨(by show 27 < 37; decide), q12⟩
          · exact ⟨(by show 28 < 37; decide), q13⟩
          · exact ⟨(by show 29 < 37; decide), q14⟩
          · exact ⟨(by show 30 < 37; decide), q15⟩
          · exact ⟨(by show 31 < 37; decide), q16⟩
          · exact ⟨(by show 32 < 37; decide), q17⟩
          · exact ⟨(by show 33 < 37; decide), q18⟩
          · exact ⟨(by show 34 < 37; decide), q19⟩
          · exact ⟨(by show 35 < 37; decide), q20⟩) (fun s hs => hM.other s (by exact hs))
        rw [hact]
        have hBX := hM.below
        clear hact hD hM hU q0 q1 q2 q3 q4 q5 q6 q7 q8 q9 q10 q11 q12 q13 q14 q15 q16 q17 q18 q19 q20
        simp only [List.foldl, Act.put, List.setIfInBounds_toArray, List.set_cons_succ, List.set_cons_zero, List.drop_succ_cons, List.drop_zero]
        have hgl := HSZ.out
        have z1 : wx.heap[w.heap.size]? = _ := (hBX.block w.heap.size (by omega)).trans hV.out.1
        have z2 : wx.heap[w.heap.size + 1]? = _ := (hBX.block (w.heap.size + 1) (by omega)).trans hV.out.2.1
        have z3 : wx.heap[w.heap.size + 1 + 1]? = _ := (hBX.block (w.heap.size + 1 + 1) (by omega)).trans hV.out.2.2.1
        have f0 := frozen_of_row _ _ 0 _ _ z3
        have f1 := frozen_of_row _ _ 1 _ _ z3
        have y0 := cell_of_row _ _ 0 _ _ _ z3
        have y1 := cell_of_row _ _ 1 _ _ _ z3
        have BS := box_store (u := .int .i64 (N : Int)) (v := .slice A4 (k + 1) c4) z3 ho4 (by omega) (Below.refl _ _)
        have BW : Hid (Below w.heap.size w ((wx.setCell ⟨w.heap.size + 1 + 1, 0, none⟩ (.int .i64 (N : Int))).setCell ⟨w.heap.size + 1 + 1, 1, none⟩ (.slice A4 (k + 1) c4))) := ((hV.out.2.2.2.2.trans (hBX.mono (by omega))).setCell (p := ⟨w.heap.size + 1 + 1, 0, none⟩) (show w.heap.size ≤ w.heap.size + 1 + 1 by omega) _).setCell (p := ⟨w.heap.size + 1 + 1, 1, none⟩) (show w.heap.size ≤ w.heap.size + 1 + 1 by omega) _
        have Z1 := (heap_setCell_other (wx.setCell ⟨w.heap.size + 1 + 1, 0, none⟩ (.int .i64 (N : Int))) ⟨w.heap.size + 1 + 1, 1, none⟩ w.heap.size (.slice A4 (k + 1) c4) (show w.heap.size ≠ w.heap.size + 1 + 1 by omega)).trans ((heap_setCell_other wx ⟨w.heap.size + 1 + 1, 0, none⟩ w.heap.size (.int .i64 (N : Int)) (show w.heap.size ≠ w.heap.size + 1 + 1 by omega)).trans z1)
        have Z2 := (heap_setCell_other (wx.setCell ⟨w.heap.size + 1 + 1, 0, none⟩ (.int .i64 (N : Int))) ⟨w.heap.size + 1 + 1, 1, none⟩ (w.heap.size + 1) (.slice A4 (k + 1) c4) (show w.heap.size + 1 ≠ w.heap.size + 1 + 1 by omega)).trans ((heap_setCell_other wx ⟨w.heap.size + 1 + 1, 0, none⟩ (w.heap.size + 1) (.int .i64 (N : Int)) (show w.heap.size + 1 ≠ w.heap.size + 1 + 1 by omega)).trans z2)
        have HB2 := Lib_hid (And.intro Z1 (And.intro Z2 (And.intro BS.1 (And.intro BS.2.2.2 BW.out))))
        clear Z1 Z2 BS BW z1 z2 z3 ho4 hBX hgl hV KC HWI HI HS HLN
        go_wp2
        clear f0 f1 y0 y1
        generalize (wx.setCell ⟨w.heap.size + 1 + 1, 0, none⟩ (.int .i64 (N : Int))).setCell ⟨w.heap.size + 1 + 1, 1, none⟩ (.slice A4 (k + 1) c4) = U at *
        go_roundw
        case rel => exact ⟨k + 1, c4, A4, insE X (a2, a1, a3), by go_num, by omega, HBK.out.symm, HB2⟩
        case measure => simp [intOf]; omega
    · obtain rfl : k = n := by omega
      have HX : Hid (X = backE L ∧ X.length = k) := ⟨hX.out.trans (by rw [List.take_of_length_le (by rw [HC.out]; exact Nat.le_refl _)]), by rw [hX.out]; exact HLN.out k (Nat.le_refl _)⟩
      have h0 := cell_of_row _ _ 0 _ _ _ hV.out.2.2.1
      have h1 := cell_of_row _ _ 1 _ _ _ hV.out.2.2.1
      have x0 := cell_of_row _ _ 0 _ _ _ hV.out.2.1
      have x1 := cell_of_row _ _ 1 _ _ _ hV.out.2.1
      have f0 := frozen_of_row _ _ 0 _ _ hV.out.2.1
      have f1 := frozen_of_row _ _ 1 _ _ hV.out.2.1
      clear hX HLN HS HI
      go_wp2
      obtain ⟨zf, hB9, hs9, ho9⟩ := box_store (u := .int .i64 (N : Int)) (v := .slice A' k c') hV.out.2.1 hV.out.2.2.2.1 (by omega) (Below.refl _ _)
      have hBB := (hV.out.2.2.2.2.setCell (p := ⟨w.heap.size + 1, 0, none⟩) (show w.heap.size ≤ w.heap.size + 1 by omega) (.int .i64 (N : Int))).setCell (p := ⟨w.heap.size + 1, 1, none⟩) (show w.heap.size ≤ w.heap.size + 1 by omega) (.slice A' k c')
      generalize (wr.setCell ⟨w.heap.size + 1, 0, none⟩ (.int .i64 (N : Int))).setCell ⟨w.heap.size + 1, 1, none⟩ (.slice A' k c') = U at *
      have q0 := cell_of_row _ _ 0 _ _ _ zf
      have q1 := cell_of_row _ _ 1 _ _ _ zf
      exact bodyPost_ret (v := .agg #[.int .i64 (N : Int), .slice A' k c']) (by simp [results, Try.results26, go_sem, q0, q1]) rfl ⟨A', c', by rw [← HX.out.1, HX.out.2], by rw [← HX.out.1, HX.out.2]; exact Rd.own ho9, hBB⟩

end Go.Proofs.Ytopecdkkmbpnbaa
