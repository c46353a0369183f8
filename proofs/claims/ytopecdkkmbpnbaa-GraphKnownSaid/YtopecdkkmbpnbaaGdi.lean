/-
  Layer 13: a graph drawn, and the document's of it (Drawn).
-/
import Derived.Test.YtopecdkkmbpnbaaGdh
namespace Go.Proofs.Ytopecdkkmbpnbaa
open Go Go.RowKit Go.Maps
set_option linter.unusedVariables false

theorem lt_of_block {w : World} {g : Nat} {o : Obj} (h : w.heap[g]? = some o) : g < w.heap.size := (Array.getElem?_eq_some_iff.1 h).1
theorem brought (d : Int) (m : Nat) (hm : 0 < m) : ∃ k : Nat, k < m ∧ (d.tmod m + m) % m = (k : Int) ∧ -(m : Int) < d.tmod m ∧ d.tmod m < m := by
  have h3 := Int.emod_lt_of_pos (d.tmod m + m) (show (0 : Int) < m by omega)
  have h4 := Int.emod_nonneg (d.tmod m + m) (show (m : Int) ≠ 0 by omega)
  exact ⟨((d.tmod m + m) % m).toNat, by omega, by omega, Int.lt_tmod_of_pos d (by omega), Int.tmod_lt_of_pos d (by omega)⟩

/-- A graph of the program's, and the document's, of at most so many nodes and edges. -/
def DrEnd (most len : Nat) (w : World) (r : Ending) (w' : World) : Prop := ∃ (N p c : Nat) (S : Nat → Prop) (A : Option Addr) (L : List Ed), r = .returned (.tuple #[.pointer (some ⟨p, 0, none⟩), .agg #[.int .i64 (N : Int), .slice A L.length c]]) ∧
  N ≤ most ∧ L.length ≤ len ∧ GmIs w' p S N L ∧ Rd w' w'.heap.size 3 A L.length (ec L) ∧ Below w.heap.size w w' ∧ (∀ k, S k → w.heap.size ≤ k) ∧ ∀ ad, A = some ad → 0 < L.length → ¬ S ad.block

/-- In the loop: the program's graph, the document's in its box, its row apart from the program's blocks. -/
structure DrI (w wr : World) (r q p N : Nat) (S : Nat → Prop) (A : Option Addr) (c : Nat) (Y X : List Ed) : Prop where
  g : GmIs wr p S N Y
  s : ∀ k, S k → r < k ∧ k ≠ q
  z : wr.heap[r]? = some (.cells #[.int .i64 0, .slice none 0 0] 31 (0, 0))
  x : wr.heap[q]? = some (.cells #[.int .i64 (N : Int), .slice A X.length c] 31 (0, 0))
  rd : Rd wr wr.heap.size 3 A X.length (ec X)
  ap : ∀ ad, A = some ad → ¬ S ad.block ∧ ad.block ≠ q ∧ ad.block ≠ r ∧ ad.block < wr.heap.size
  b : Below r w wr
  rq : r + 1 ≤ q
section
variable {w wr V w8 w9 : World} {r q p N c : Nat} {S S' : Nat → Prop} {A : Option Addr} {Y Y' X : List Ed}
theorem DrI.rl (h : DrI w wr r q p N S A c Y X) : r < wr.heap.size := (Array.getElem?_eq_some_iff.1 h.z).1
theorem DrI.ql (h : DrI w wr r q p N S A c Y X) : q < wr.heap.size := (Array.getElem?_eq_some_iff.1 h.x).1
theorem DrI.turn (h : DrI w V r q p N S A c Y X) (hg : GmIs w8 p S' N Y') (t : Turns S V w8) (hs : ∀ k, S' k → S k ∨ V.heap.size ≤ k) : DrI w w8 r q p N S' A c Y' X where
  g := hg
  s := fun k hk => by
    rcases hs k hk with h1 | h1
    · exact h.s k h1
    · have := h.ql; have := h.rq; omega
  z := (t.block _ h.rl (fun hc => by have := (h.s _ hc).1; omega)).trans h.z
  x := (t.block _ h.ql (fun hc => (h.s _ hc).2 rfl)).trans h.x
  rd := Rd.offD h.rd (fun ad hA hl => t.block _ hl (h.ap ad hA).1) t.size
  ap := fun ad hA => by
    obtain ⟨h1, h2, h3, h4⟩ := h.ap ad hA
    refine ⟨fun hc => ?_, h2, h3, Nat.lt_of_lt_of_le h4 t.size⟩
    rcases hs _ hc with h5 | h5
    · exact h1 h5
    · omega
  b := h.b.trans (t.below (Nat.le_of_lt h.rl) fun k hk => Nat.le_of_lt (h.s k hk).1)
  rq := h.rq
theorem DrI.fin (h : DrI w V r q p N S A c X X) (hr : r = w.heap.size) {len : Nat} (hN : N ≤ 20) (hX : X.length ≤ len) : ((V.setCell ⟨r, 0, none⟩ (.int .i64 (N : Int))).setCell ⟨r, 1, none⟩ (.slice A X.length c)).heap[r]? = some (.cells #[.int .i64 (N : Int), .slice A X.length c] 31 (0, 0)) ∧
    DrEnd 20 len w (.returned (.tuple #[.pointer (some ⟨p, 0, none⟩), .agg #[.int .i64 (N : Int), .slice A X.length c]])) ((V.setCell ⟨r, 0, none⟩ (.int .i64 (N : Int))).setCell ⟨r, 1, none⟩ (.slice A X.length c)) := by
  have z1 : (V.setCell ⟨r, 0, none⟩ (.int .i64 (N : Int))).heap[r]? = some (.cells #[.int .i64 (N : Int), .slice none 0 0] 31 (0, 0)) := by rw [heap_setCell_same _ r 0 _ _ _ h.z]; rfl
  have ho : ∀ k, k ≠ r → ((V.setCell ⟨r, 0, none⟩ (.int .i64 (N : Int))).setCell ⟨r, 1, none⟩ (.slice A X.length c)).heap[k]? = V.heap[k]? := fun k hk => (heap_setCell_other _ ⟨r, 1, none⟩ k _ hk).trans (heap_setCell_other _ ⟨r, 0, none⟩ k _ hk)
  have hs : ((V.setCell ⟨r, 0, none⟩ (.int .i64 (N : Int))).setCell ⟨r, 1, none⟩ (.slice A X.length c)).heap.size = V.heap.size := by simp
  have hb := (h.b.setCell (p := ⟨r, 0, none⟩) (Nat.le_refl _) (.int .i64 (N : Int))).setCell (p := ⟨r, 1, none⟩) (Nat.le_refl _) (.slice A X.length c)
  refine ⟨by rw [heap_setCell_same _ r 1 _ _ _ z1]; rfl, N, p, c, S, A, X, rfl, hN, hX, h.g.keep (by rw [hs]; exact Nat.le_refl _) (fun k _ hk => ho k (by have := (h.s k hk).1; omega)), Rd.offD h.rd (fun ad hA _ => ho _ (h.ap ad hA).2.2.1) (by rw [hs]; exact Nat.le_refl _), hr ▸ hb, fun k hk => by have := (h.s k hk).1; omega, fun ad hA _ => (h.ap ad hA).1⟩
theorem DrI.later (h : DrI w V r q p N S A c Y X) (hb : Below V.heap.size V w8) : DrI w w8 r q p N S A c Y X :=
  h.turn (h.g.later hb) (Turns.of_below hb) fun k hk => .inl hk
theorem DrI.put {A6 : Option Addr} {c6 : Nat} (h : DrI w V r q p N S A c Y X) (hlies : 0 < Y.length → ∃ ad, A6 = some ad ∧ ad.block < V.heap.size ∧ ∀ j u, (ec Y)[j]? = some u → V.cell? (ad.add j) = some u) (hr6 : Rd V V.heap.size 3 A6 Y.length (ec Y)) (hl : 0 < Y.length) (ha : A6 = A ∨ ∀ ad, A6 = some ad → w9.heap.size ≤ ad.block) (_hS : ∀ k, S k → k < V.heap.size) (hS : ∀ k, S k → k < w8.heap.size) (hq : q < w8.heap.size) (h98 : w8.heap.size ≤ w9.heap.size) :
    DrI w ((V.setCell ⟨q, 0, none⟩ (.int .i64 (N : Int))).setCell ⟨q, 1, none⟩ (.slice A6 Y.length c6)) r q p N S A6 c6 Y Y := by
  have z1 : (V.setCell ⟨q, 0, none⟩ (.int .i64 (N : Int))).heap[q]? = some (.cells #[.int .i64 (N : Int), .slice A X.length c] 31 (0, 0)) := by rw [heap_setCell_same _ q 0 _ _ _ h.x]; rfl
  have ho : ∀ k, k ≠ q → ((V.setCell ⟨q, 0, none⟩ (.int .i64 (N : Int))).setCell ⟨q, 1, none⟩ (.slice A6 Y.length c6)).heap[k]? = V.heap[k]? := fun k hk => (heap_setCell_other _ ⟨q, 1, none⟩ k _ hk).trans (heap_setCell_other _ ⟨q, 0, none⟩ k _ hk)
  have hs : ((V.setCell ⟨q, 0, none⟩ (.int .i64 (N : Int))).setCell ⟨q, 1, none⟩ (.slice A6 Y.length c6)).heap.size = V.heap.size := by simp
  have hrq := h.rq
  have hap : ∀ ad, A6 = some ad → ¬ S ad.block ∧ ad.block ≠ q ∧ ad.block ≠ r ∧ ad.block < V.heap.size := fun ad hA => by
    rcases ha with ha | ha
    · exact h.ap ad (ha ▸ hA)
    · have h1 := ha ad hA
      obtain ⟨ad', e, hb, _⟩ := hlies hl
      rw [hA] at e
      cases e
      exact ⟨fun hc => by have := hS _ hc; omega, by omega, by omega, hb⟩
  exact ⟨h.g.keep (by rw [hs]; exact Nat.le_refl _) (fun k _ hk => ho k (h.s k hk).2), h.s, (ho r (by omega)).trans h.z, by rw [heap_setCell_same _ q 1 _ _ _ z1]; rfl, Rd.offD hr6 (fun ad hA _ => ho _ (hap ad hA).2.1) (by rw [hs]; exact Nat.le_refl _), fun ad hA => by rw [hs]; exact hap ad hA, (h.b.setCell (p := ⟨q, 0, none⟩) (show r ≤ q by omega) _).setCell (p := ⟨q, 1, none⟩) (show r ≤ q by omega) _, h.rq⟩
end

set_option maxRecDepth 100000 in
set_option maxHeartbeats 6400000 in
theorem drawn_any {w : World} {B nl cl : Nat} {Al : Option Addr} {l : List Ed} (d : Int) (h : Rd w B 3 Al nl (ec l)) (hB : B ≤ w.heap.size) (hn : nl ≤ 10000) (hok : ∀ e ∈ l, EdOk e) :
    Calls Try.prog 23 #[.int .i64 d, .int .i64 20, .slice Al nl cl] w (DrEnd 20 nl w) := by
  have HC := Lib_hid (rde_count h)
  have HI := Lib_hid (fun (W : World) (hW : Below w.heap.size w W) (i : Nat) (hi : i < nl) => e_at (h.below (hW.mono hB)) hi)
  have HO : Hid (∀ i, i < nl → EdOk (at3 l i)) := fun i hi => hok _ (at3_mem (by rw [HC.out]; exact hi))
  have HN := Lib_hid hn
  have b1 := below_new w (.cells #[.int .i64 0, .slice none 0 0] 31)
  have x1 := heap_alloc_new w (.cells #[.int .i64 0, .slice none 0 0] 31)
  have s1 : (w.alloc (.cells #[.int .i64 0, .slice none 0 0] 31)).heap.size = w.heap.size + 1 := by simp
  clear h hok
  obtain ⟨N, hN, he, hl1, hl2⟩ := brought d 21 (by decide)
  have HE : Hid ((wrap64 (wrap64 (d.tmod 21 + 20) + 1)).tmod 21 = (N : Int)) := by
    have h1 : -21 < d.tmod 21 := hl1
    have h2 : d.tmod 21 < 21 := hl2
    have h3 : (d.tmod 21 + 21) % 21 = (N : Int) := he
    unfold Hid
    rw [IntWalk.wrap64_in (d.tmod 21 + 20) (by omega), IntWalk.wrap64_in _ (by omega), Int.tmod_eq_emod_of_nonneg (by omega), ← h3]
    congr 1
    omega
  clear he hl1 hl2
  have HN20 : Hid (N ≤ 20) := by unfold Hid; omega
  go_enter Try.func23, Try.ntmps23
  go_upto_region 2 with (fail)
  rw [HE.out]
  generalize wrap64 (wrap64 (d.tmod 21 + 20) + 1) = z1 at *
  generalize wrap64 (d.tmod 21 + 20) = z2 at *
  generalize d.tmod 21 = z3 at *
  clear HE
  generalize w.alloc (.cells #[.int .i64 0, .slice none 0 0] 31) = Wa at *
  have NW := Lib_hid (pnew_any (N : Int) Wa)
  have HWa : Hid (Wa.heap[w.heap.size]? = some (.cells #[.int .i64 0, .slice none 0 0] 31 (0, 0)) ∧ Below w.heap.size w Wa ∧ Wa.heap.size = w.heap.size + 1) := ⟨x1, b1, s1⟩
  clear x1 b1 s1 hN
  go_wp2_with fail
  refine NW.out.mono ?_
  rintro e W2 (⟨hbad, _⟩ | ⟨_, p, S, rfl, hG, hB2, hS⟩)
  · exfalso; have := HN20.out; omega
  have b3 := below_new W2 (.cells #[.int .i64 (N : Int), .slice none 0 0] 31)
  have x3 := heap_alloc_new W2 (.cells #[.int .i64 (N : Int), .slice none 0 0] 31)
  have s3 : (W2.alloc (.cells #[.int .i64 (N : Int), .slice none 0 0] 31)).heap.size = W2.heap.size + 1 := by simp
  have hG2 : GmIs W2 p S N [] := hG
  have hW2 : w.heap.size + 1 ≤ W2.heap.size := by have := hB2.size; have := HWa.out.2.2; omega
  have HD0 : Hid (GmIs (W2.alloc (.cells #[.int .i64 (N : Int), .slice none 0 0] 31)) p S N [] ∧ (∀ k, S k → w.heap.size < k ∧ k < W2.heap.size) ∧ (W2.alloc (.cells #[.int .i64 (N : Int), .slice none 0 0] 31)).heap[w.heap.size]? = some (.cells #[.int .i64 0, .slice none 0 0] 31 (0, 0)) ∧ (W2.alloc (.cells #[.int .i64 (N : Int), .slice none 0 0] 31)).heap[W2.heap.size]? = some (.cells #[.int .i64 (N : Int), .slice none 0 0] 31 (0, 0)) ∧ Below w.heap.size w (W2.alloc (.cells #[.int .i64 (N : Int), .slice none 0 0] 31))) :=
    ⟨hG2.later b3, fun k hk => ⟨by have := hS k hk; have := HWa.out.2.2; omega, hG2.lt k hk⟩, (b3.block _ (by omega)).trans ((hB2.block _ (by have := HWa.out.2.2; omega)).trans HWa.out.1), x3, (HWa.out.2.1.trans (hB2.mono (by have := HWa.out.2.2; omega))).trans (b3.mono (by omega))⟩
  clear hG hG2 hB2 hS b3 x3 NW HWa
  go_upto_region 4 with (fail)
  generalize hq : W2.heap.size = q at *
  generalize W2.alloc (.cells #[.int .i64 (N : Int), .slice none 0 0] 31) = W3 at *
  clear hq s3
  go_wp2
  go_loopw [11] (fun i wr => ∃ (k c : Nat) (A : Option Addr) (S : Nat → Prop) (X : List Ed), i = .int .i64 k ∧ k ≤ nl ∧ Hid (X.length ≤ k) ∧ Hid (DrI w wr w.heap.size q p N S A c X X)) (fun i _ => nl - (intOf i).toNat)
  case atStart => exact ⟨0, 0, none, S, [], rfl, Nat.zero_le _, Nat.zero_le _, ⟨HD0.out.1, fun k hk => ⟨(HD0.out.2.1 k hk).1, by have := (HD0.out.2.1 k hk).2; omega⟩, HD0.out.2.2.1, HD0.out.2.2.2.1, Rd.zero, (fun ad hA => by cases hA), HD0.out.2.2.2.2, hW2⟩⟩
  case round =>
    clear HD0
    obtain ⟨k, c, A, S1, X, rfl, hk, hX, hV⟩ := hrel
    by_cases hlt : k < nl ∧ 0 < N
    · obtain ⟨hlt, hN0⟩ := hlt
      have hbw := hV.out.b
      obtain ⟨b, off, hA, _, _, _, _⟩ := HI.out _ hbw k hlt
      have hIJ := Lib_hid (fun (V : World) (hV : Below w.heap.size w V) => HI.out V hV k hlt)
      subst hA
      have hokk := HO.out k hlt
      have hwsz := hbw.size
      have KC : Hid (∀ V : World, Below wr.heap.size wr V → V.cell? ⟨b, off + k * 3, none⟩ = some (.int .i64 (at3 l k).1) ∧ V.cell? ⟨b, off + k * 3 + 1, none⟩ = some (.int .i64 (at3 l k).2.1) ∧ V.cell? ⟨b, off + k * 3 + 2, none⟩ = some (.int .i64 (at3 l k).2.2)) := fun V hb => by
        obtain ⟨b', o', e', _, c0, c1, c2'⟩ := hIJ.out V (hbw.trans (hb.mono hwsz))
        simp only [Option.some.injEq, Addr.mk.injEq, and_true] at e'
        obtain ⟨rfl, rfl⟩ := e'
        exact ⟨c0, c1, c2'⟩
      have H3 : Hid (I64 (at3 l k).2.2) := hokk.2.2
      clear hIJ hokk
      generalize (at3 l k).1 = a1 at *
      generalize (at3 l k).2.1 = a2 at *
      generalize (at3 l k).2.2 = a3 at *
      have BR : ∀ x : Int, ∃ r : Nat, r < N ∧ (wrap64 (x.tmod N + N)).tmod N = (r : Int) := fun x => by
        obtain ⟨r, h1, h2, h3, h4⟩ := brought x N hN0
        have h5 := HN20.out
        refine ⟨r, h1, ?_⟩
        rw [IntWalk.wrap64_in _ (by omega), Int.tmod_eq_emod_of_nonneg (by omega)]
        exact h2
      obtain ⟨r1, hr1, he1⟩ := BR a1
      obtain ⟨r2, hr2, he2⟩ := BR a2
      have HR := Lib_hid (And.intro (And.intro hr1 he1) (And.intro hr2 he2))
      have hki : (k : Int) < (nl : Int) := by omega
      have hk0 : (0 : Int) ≤ (k : Int) := by omega
      have hNp : (0 : Int) < (N : Int) := by omega
      have hNz : ¬ N = 0 := by omega
      clear BR hr1 he1 hr2 he2
      go_wp2
      refine wp_region_midT (N := 83) 29 (fun i v ww => ([fun v ww => v = .slice (some ⟨b, off, none⟩) nl cl, fun v ww => v = .int .i64 (k : Int), fun v ww => v = .pointer (some ⟨b, off + k * 3, none⟩), fun v ww => v = .pointer (some ⟨b, off + k * 3, none⟩), fun v ww => v = .int .i64 a1, fun v ww => v = .int .i64 (N : Int), fun v ww => v = .int .i64 (a1.tmod N), fun v ww => v = .int .i64 (N : Int), fun v ww => v = .int .i64 (wrap64 (a1.tmod N + N)), fun v ww => v = .int .i64 (N : Int), fun v ww => v = .int .i64 (r1 : Int), fun v ww => v = .slice (some ⟨b, off, none⟩) nl cl, fun v ww => v = .int .i64 (k : Int), fun v ww => v = .pointer (some ⟨b, off + k * 3, none⟩), fun v ww => v = .pointer (some ⟨b, off + k * 3 + 1, none⟩), fun v ww => v = .int .i64 a2, fun v ww => v = .int .i64 (N : Int), fun v ww => v = .int .i64 (a2.tmod N), fun v ww => v = .int .i64 (N : Int), fun v ww => v = .int .i64 (wrap64 (a2.tmod N + N)), fun v ww => v = .int .i64 (N : Int), fun v ww => v = .int .i64 (r2 : Int), fun v ww => v = .slice (some ⟨b, off, none⟩) nl cl, fun v ww => v = .int .i64 (k : Int), fun v ww => v = .pointer (some ⟨b, off + k * 3, none⟩), fun v ww => v = .pointer (some ⟨b, off + k * 3 + 2, none⟩), fun v ww => v = .int .i64 a3, fun v ww => v = .agg #[.int .i64 (r1 : Int), .int .i64 (r2 : Int), .int .i64 a3], fun v ww => ∃ g, v = .pointer (some ⟨g, 0, none⟩) ∧ ww.heap[g]? = some (.cells #[.int .i64 0, .int .i64 0, .int .i64 0] 39 (0, 0)) ∧ wr.heap.size ≤ g] : List (Value → World → Prop)).getD i (fun _ _ => True) v ww) (by kernel_rfl) (by kernel_rfl) (by kernel_rfl) rfl ?_ ?_ ?_
      · intro i v wa wb h0 hb hp
        by_cases hi : i < 29
        · have hcase : i = 0 ∨ i = 1 ∨ i = 2 ∨ i = 3 ∨ i = 4 ∨ i = 5 ∨ i = 6 ∨ i = 7 ∨ i = 8 ∨ i = 9 ∨ i = 10 ∨ i = 11 ∨ i = 12 ∨ i = 13 ∨ i = 14 ∨ i = 15 ∨ i = 16 ∨ i = 17 ∨ i = 18 ∨ i = 19 ∨ i = 20 ∨ i = 21 ∨ i = 22 ∨ i = 23 ∨ i = 24 ∨ i = 25 ∨ i = 26 ∨ i = 27 ∨ i = 28 := by omega
          rcases hcase with rfl | rfl | rfl | rfl | rfl | rfl | rfl | rfl | rfl | rfl | rfl | rfl | rfl | rfl | rfl | rfl | rfl | rfl | rfl | rfl | rfl | rfl | rfl | rfl | rfl | rfl | rfl | rfl | rfl
          · exact hp
          · exact hp
          · exact hp
          · exact hp
          · exact hp
          · exact hp
          · exact hp
          · exact hp
          · exact hp
          · exact hp
          · exact hp
          · exact hp
          · exact hp
          · exact hp
          · exact hp
          · exact hp
          · exact hp
          · exact hp
          · exact hp
          · exact hp
          · exact hp
          · exact hp
          · exact hp
          · exact hp
          · exact hp
          · exact hp
          · exact hp
          · exact hp
          · obtain ⟨g, e, hg, hN⟩ := hp
            exact ⟨g, e, (hb.block g (lt_of_block hg)).trans hg, hN⟩
        · have hnn : ([fun v ww => v = .slice (some ⟨b, off, none⟩) nl cl, fun v ww => v = .int .i64 (k : Int), fun v ww => v = .pointer (some ⟨b, off + k * 3, none⟩), fun v ww => v = .pointer (some ⟨b, off + k * 3, none⟩), fun v ww => v = .int .i64 a1, fun v ww => v = .int .i64 (N : Int), fun v ww => v = .int .i64 (a1.tmod N), fun v ww => v = .int .i64 (N : Int), fun v ww => v = .int .i64 (wrap64 (a1.tmod N + N)), fun v ww => v = .int .i64 (N : Int), fun v ww => v = .int .i64 (r1 : Int), fun v ww => v = .slice (some ⟨b, off, none⟩) nl cl, fun v ww => v = .int .i64 (k : Int), fun v ww => v = .pointer (some ⟨b, off + k * 3, none⟩), fun v ww => v = .pointer (some ⟨b, off + k * 3 + 1, none⟩), fun v ww => v = .int .i64 a2, fun v ww => v = .int .i64 (N : Int), fun v ww => v = .int .i64 (a2.tmod N), fun v ww => v = .int .i64 (N : Int), fun v ww => v = .int .i64 (wrap64 (a2.tmod N + N)), fun v ww => v = .int .i64 (N : Int), fun v ww => v = .int .i64 (r2 : Int), fun v ww => v = .slice (some ⟨b, off, none⟩) nl cl, fun v ww => v = .int .i64 (k : Int), fun v ww => v = .pointer (some ⟨b, off + k * 3, none⟩), fun v ww => v = .pointer (some ⟨b, off + k * 3 + 2, none⟩), fun v ww => v = .int .i64 a3, fun v ww => v = .agg #[.int .i64 (r1 : Int), .int .i64 (r2 : Int), .int .i64 a3], fun v ww => ∃ g, v = .pointer (some ⟨g, 0, none⟩) ∧ ww.heap[g]? = some (.cells #[.int .i64 0, .int .i64 0, .int .i64 0] 39 (0, 0)) ∧ wr.heap.size ≤ g] : List (Value → World → Prop))[i]? = none := List.getElem?_eq_none (by simpa using hi)
          rw [List.getD_eq_getElem?_getD, hnn]
          trivial
      · intro i o a wx hi8 hi hM hD
        have hcase : i = 0 ∨ i = 1 ∨ i = 2 ∨ i = 3 ∨ i = 4 ∨ i = 5 ∨ i = 6 ∨ i = 7 ∨ i = 8 ∨ i = 9 ∨ i = 10 ∨ i = 11 ∨ i = 12 ∨ i = 13 ∨ i = 14 ∨ i = 15 ∨ i = 16 ∨ i = 17 ∨ i = 18 ∨ i = 19 ∨ i = 20 ∨ i = 21 ∨ i = 22 ∨ i = 23 ∨ i = 24 ∨ i = 25 ∨ i = 26 ∨ i = 27 ∨ i = 28 := by omega
        clear hi8
        rcases hcase with rfl | rfl | rfl | rfl | rfl | rfl | rfl | rfl | rfl | rfl | rfl | rfl | rfl | rfl | rfl | rfl | rfl | rfl | rfl | rfl | rfl | rfl | rfl | rfl | rfl | rfl | rfl | rfl | rfl
        · obtain rfl := Option.some.inj hi
          have e2 : a.tmps.getD 2 undef = .slice (some ⟨b, off, none⟩) nl cl := (hM.other 2 (by decide +kernel)).trans rfl
          refine ⟨rfl, mid_step (.slice (some ⟨b, off, none⟩) nl cl) wx (fun K hK => ?_) ⟨_, rfl, rfl, Below.refl _ _⟩⟩
          go_simp
          exact hK
        · obtain rfl := Option.some.inj hi
          have e11 : a.tmps.getD 11 undef = .int .i64 (k : Int) := (hM.other 11 (by decide +kernel)).trans rfl
          refine ⟨rfl, mid_step (.int .i64 (k : Int)) wx (fun K hK => ?_) ⟨_, rfl, rfl, Below.refl _ _⟩⟩
          go_simp
          exact hK
        · obtain rfl := Option.some.inj hi
          have e40 : a.tmps.getD 40 undef = .slice (some ⟨b, off, none⟩) nl cl := hD 0 (by kernel_rfl) _ 40 rfl rfl
          have e41 : a.tmps.getD 41 undef = .int .i64 (k : Int) := hD 1 (by kernel_rfl) _ 41 rfl rfl
          refine ⟨rfl, mid_step (.pointer (some ⟨b, off + k * 3, none⟩)) wx (fun K hK => ?_) ⟨_, rfl, rfl, Below.refl _ _⟩⟩
          go_simp
          exact hK
        · obtain rfl := Option.some.inj hi
          have e42 : a.tmps.getD 42 undef = .pointer (some ⟨b, off + k * 3, none⟩) := hD 2 (by kernel_rfl) _ 42 rfl rfl
          refine ⟨rfl, mid_step (.pointer (some ⟨b, off + k * 3, none⟩)) wx (fun K hK => ?_) ⟨_, rfl, rfl, Below.refl _ _⟩⟩
          go_simp
          exact hK
        · obtain rfl := Option.some.inj hi
          have e43 : a.tmps.getD 43 undef = .pointer (some ⟨b, off + k * 3, none⟩) := hD 3 (by kernel_rfl) _ 43 rfl rfl
          obtain ⟨c0, c1, c2⟩ := KC.out wx hM.below
          refine ⟨rfl, mid_step (.int .i64 a1) wx (fun K hK => ?_) ⟨_, rfl, rfl, Below.refl _ _⟩⟩
          go_simp
          exact hK
        · obtain rfl := Option.some.inj hi
          have e0 : a.tmps.getD 0 undef = .int .i64 (N : Int) := (hM.other 0 (by decide +kernel)).trans rfl
          refine ⟨rfl, mid_step (.int .i64 (N : Int)) wx (fun K hK => ?_) ⟨_, rfl, rfl, Below.refl _ _⟩⟩
          go_simp
          exact hK
        · obtain rfl := Option.some.inj hi
          have e44 : a.tmps.getD 44 undef = .int .i64 a1 := hD 4 (by kernel_rfl) _ 44 rfl rfl
          have e45 : a.tmps.getD 45 undef = .int .i64 (N : Int) := hD 5 (by kernel_rfl) _ 45 rfl rfl
          refine ⟨rfl, mid_step (.int .i64 (a1.tmod N)) wx (fun K hK => ?_) ⟨_, rfl, rfl, Below.refl _ _⟩⟩
          go_simp
          exact hK
        · obtain rfl := Option.some.inj hi
          have e0 : a.tmps.getD 0 undef = .int .i64 (N : Int) := (hM.other 0 (by decide +kernel)).trans rfl
          refine ⟨rfl, mid_step (.int .i64 (N : Int)) wx (fun K hK => ?_) ⟨_, rfl, rfl, Below.refl _ _⟩⟩
          go_simp
          exact hK
        · obtain rfl := Option.some.inj hi
          have e46 : a.tmps.getD 46 undef = .int .i64 (a1.tmod N) := hD 6 (by kernel_rfl) _ 46 rfl rfl
          have e47 : a.tmps.getD 47 undef = .int .i64 (N : Int) := hD 7 (by kernel_rfl) _ 47 rfl rfl
          refine ⟨rfl, mid_step (.int .i64 (wrap64 (a1.tmod N + N))) wx (fun K hK => ?_) ⟨_, rfl, rfl, Below.refl _ _⟩⟩
          go_simp
          rw [IntWalk.i64_left]
          exact hK
        · obtain rfl := Option.some.inj hi
          have e0 : a.tmps.getD 0 undef = .int .i64 (N : Int) := (hM.other 0 (by decide +kernel)).trans rfl
          refine ⟨rfl, mid_step (.int .i64 (N : Int)) wx (fun K hK => ?_) ⟨_, rfl, rfl, Below.refl _ _⟩⟩
          go_simp
          exact hK
        · obtain rfl := Option.some.inj hi
          have e48 : a.tmps.getD 48 undef = .int .i64 (wrap64 (a1.tmod N + N)) := hD 8 (by kernel_rfl) _ 48 rfl rfl
          have e49 : a.tmps.getD 49 undef = .int .i64 (N : Int) := hD 9 (by kernel_rfl) _ 49 rfl rfl
          refine ⟨rfl, mid_step (.int .i64 (r1 : Int)) wx (fun K hK => ?_) ⟨_, rfl, rfl, Below.refl _ _⟩⟩
          go_simp
          rw [HR.out.1.2]
          exact hK
        · obtain rfl := Option.some.inj hi
          have e2 : a.tmps.getD 2 undef = .slice (some ⟨b, off, none⟩) nl cl := (hM.other 2 (by decide +kernel)).trans rfl
          refine ⟨rfl, mid_step (.slice (some ⟨b, off, none⟩) nl cl) wx (fun K hK => ?_) ⟨_, rfl, rfl, Below.refl _ _⟩⟩
          go_simp
          exact hK
        · obtain rfl := Option.some.inj hi
          have e11 : a.tmps.getD 11 undef = .int .i64 (k : Int) := (hM.other 11 (by decide +kernel)).trans rfl
          refine ⟨rfl, mid_step (.int .i64 (k : Int)) wx (fun K hK => ?_) ⟨_, rfl, rfl, Below.refl _ _⟩⟩
          go_simp
          exact hK
        · obtain rfl := Option.some.inj hi
          have e51 : a.tmps.getD 51 undef = .slice (some ⟨b, off, none⟩) nl cl := hD 11 (by kernel_rfl) _ 51 rfl rfl
          have e52 : a.tmps.getD 52 undef = .int .i64 (k : Int) := hD 12 (by kernel_rfl) _ 52 rfl rfl
          refine ⟨rfl, mid_step (.pointer (some ⟨b, off + k * 3, none⟩)) wx (fun K hK => ?_) ⟨_, rfl, rfl, Below.refl _ _⟩⟩
          go_simp
          exact hK
        · obtain rfl := Option.some.inj hi
          have e53 : a.tmps.getD 53 undef = .pointer (some ⟨b, off + k * 3, none⟩) := hD 13 (by kernel_rfl) _ 53 rfl rfl
          refine ⟨rfl, mid_step (.pointer (some ⟨b, off + k * 3 + 1, none⟩)) wx (fun K hK => ?_) ⟨_, rfl, rfl, Below.refl _ _⟩⟩
          go_simp
          exact hK
        · obtain rfl := Option.some.inj hi
          have e54 : a.tmps.getD 54 undef = .pointer (some ⟨b, off + k * 3 + 1, none⟩) := hD 14 (by kernel_rfl) _ 54 rfl rfl
          obtain ⟨c0, c1, c2⟩ := KC.out wx hM.below
          refine ⟨rfl, mid_step (.int .i64 a2) wx (fun K hK => ?_) ⟨_, rfl, rfl, Below.refl _ _⟩⟩
          go_simp
          exact hK
        · obtain rfl := Option.some.inj hi
          have e0 : a.tmps.getD 0 undef = .int .i64 (N : Int) := (hM.other 0 (by decide +kernel)).trans rfl
          refine ⟨rfl, mid_step (.int .i64 (N : Int)) wx (fun K hK => ?_) ⟨_, rfl, rfl, Below.refl _ _⟩⟩
          go_simp
          exact hK
        · obtain rfl := Option.some.inj hi
          have e55 : a.tmps.getD 55 undef = .int .i64 a2 := hD 15 (by kernel_rfl) _ 55 rfl rfl
          have e56 : a.tmps.getD 56 undef = .int .i64 (N : Int) := hD 16 (by kernel_rfl) _ 56 rfl rfl
          refine ⟨rfl, mid_step (.int .i64 (a2.tmod N)) wx (fun K hK => ?_) ⟨_, rfl, rfl, Below.refl _ _⟩⟩
          go_simp
          exact hK
        · obtain rfl := Option.some.inj hi
          have e0 : a.tmps.getD 0 undef = .int .i64 (N : Int) := (hM.other 0 (by decide +kernel)).trans rfl
          refine ⟨rfl, mid_step (.int .i64 (N : Int)) wx (fun K hK => ?_) ⟨_, rfl, rfl, Below.refl _ _⟩⟩
          go_simp
          exact hK
        · obtain rfl := Option.some.inj hi
          have e57 : a.tmps.getD 57 undef = .int .i64 (a2.tmod N) := hD 17 (by kernel_rfl) _ 57 rfl rfl
          have e58 : a.tmps.getD 58 undef = .int .i64 (N : Int) := hD 18 (by kernel_rfl) _ 58 rfl rfl
          refine ⟨rfl, mid_step (.int .i64 (wrap64 (a2.tmod N + N))) wx (fun K hK => ?_) ⟨_, rfl, rfl, Below.refl _ _⟩⟩
          go_simp
          rw [IntWalk.i64_left]
          exact hK
        · obtain rfl := Option.some.inj hi
          have e0 : a.tmps.getD 0 undef = .int .i64 (N : Int) := (hM.other 0 (by decide +kernel)).trans rfl
          refine ⟨rfl, mid_step (.int .i64 (N : Int)) wx (fun K hK => ?_) ⟨_, rfl, rfl, Below.refl _ _⟩⟩
          go_simp
          exact hK
        · obtain rfl := Option.some.inj hi
          have e59 : a.tmps.getD 59 undef = .int .i64 (wrap64 (a2.tmod N + N)) := hD 19 (by kernel_rfl) _ 59 rfl rfl
          have e60 : a.tmps.getD 60 undef = .int .i64 (N : Int) := hD 20 (by kernel_rfl) _ 60 rfl rfl
          refine ⟨rfl, mid_step (.int .i64 (r2 : Int)) wx (fun K hK => ?_) ⟨_, rfl, rfl, Below.refl _ _⟩⟩
          go_simp
          rw [HR.out.2.2]
          exact hK
        · obtain rfl := Option.some.inj hi
          have e2 : a.tmps.getD 2 undef = .slice (some ⟨b, off, none⟩) nl cl := (hM.other 2 (by decide +kernel)).trans rfl
          refine ⟨rfl, mid_step (.slice (some ⟨b, off, none⟩) nl cl) wx (fun K hK => ?_) ⟨_, rfl, rfl, Below.refl _ _⟩⟩
          go_simp
          exact hK
        · obtain rfl := Option.some.inj hi
          have e11 : a.tmps.getD 11 undef = .int .i64 (k : Int) := (hM.other 11 (by decide +kernel)).trans rfl
          refine ⟨rfl, mid_step (.int .i64 (k : Int)) wx (fun K hK => ?_) ⟨_, rfl, rfl, Below.refl _ _⟩⟩
          go_simp
          exact hK
        · obtain rfl := Option.some.inj hi
          have e62 : a.tmps.getD 62 undef = .slice (some ⟨b, off, none⟩) nl cl := hD 22 (by kernel_rfl) _ 62 rfl rfl
          have e63 : a.tmps.getD 63 undef = .int .i64 (k : Int) := hD 23 (by kernel_rfl) _ 63 rfl rfl
          refine ⟨rfl, mid_step (.pointer (some ⟨b, off + k * 3, none⟩)) wx (fun K hK => ?_) ⟨_, rfl, rfl, Below.refl _ _⟩⟩
          go_simp
          exact hK
        · obtain rfl := Option.some.inj hi
          have e64 : a.tmps.getD 64 undef = .pointer (some ⟨b, off + k * 3, none⟩) := hD 24 (by kernel_rfl) _ 64 rfl rfl
          refine ⟨rfl, mid_step (.pointer (some ⟨b, off + k * 3 + 2, none⟩)) wx (fun K hK => ?_) ⟨_, rfl, rfl, Below.refl _ _⟩⟩
          go_simp
          exact hK
        · obtain rfl := Option.some.inj hi
          have e65 : a.tmps.getD 65 undef = .pointer (some ⟨b, off + k * 3 + 2, none⟩) := hD 25 (by kernel_rfl) _ 65 rfl rfl
          obtain ⟨c0, c1, c2⟩ := KC.out wx hM.below
          refine ⟨rfl, mid_step (.int .i64 a3) wx (fun K hK => ?_) ⟨_, rfl, rfl, Below.refl _ _⟩⟩
          go_simp
          exact hK
        · obtain rfl := Option.some.inj hi
          have e50 : a.tmps.getD 50 undef = .int .i64 (r1 : Int) := hD 10 (by kernel_rfl) _ 50 rfl rfl
          have e61 : a.tmps.getD 61 undef = .int .i64 (r2 : Int) := hD 21 (by kernel_rfl) _ 61 rfl rfl
          have e66 : a.tmps.getD 66 undef = .int .i64 a3 := hD 26 (by kernel_rfl) _ 66 rfl rfl
          have f50 := e50
          have f61 := e61
          have f66 := e66
          rw [Array.getD_eq_getD_getElem?] at f50 f61 f66
          refine ⟨rfl, mid_step (.agg #[.int .i64 (r1 : Int), .int .i64 (r2 : Int), .int .i64 a3]) wx (fun K hK => ?_) ⟨_, rfl, rfl, Below.refl _ _⟩⟩
          go_simp
          exact hK
        · obtain rfl := Option.some.inj hi
          refine ⟨rfl, mid_step (.pointer (some ⟨wx.heap.size, 0, none⟩)) (wx.alloc (.cells #[.int .i64 0, .int .i64 0, .int .i64 0] 39)) (fun K hK => ?_) ⟨_, rfl, ⟨_, rfl, heap_alloc_new _ _, hM.below.size⟩, below_new _ _⟩⟩
          go_simp
          exact hK
      · intro a wx hM hU hD
        have q0 := hD 0 (by decide) _ 40 rfl rfl
        have q1 := hD 1 (by decide) _ 41 rfl rfl
        have q2 := hD 2 (by decide) _ 42 rfl rfl
        have q3 := hD 3 (by decide) _ 43 rfl rfl
        have q4 := hD 4 (by decide) _ 44 rfl rfl
        have q5 := hD 5 (by decide) _ 45 rfl rfl
        have q6 := hD 6 (by decide) _ 46 rfl rfl
        have q7 := hD 7 (by decide) _ 47 rfl rfl
        have q8 := hD 8 (by decide) _ 48 rfl rfl
        have q9 := hD 9 (by decide) _ 49 rfl rfl
        have q10 := hD 10 (by decide) _ 50 rfl rfl
        have q11 := hD 11 (by decide) _ 51 rfl rfl
        have q12 := hD 12 (by decide) _ 52 rfl rfl
        have q13 := hD 13 (by decide) _ 53 rfl rfl
        have q14 := hD 14 (by decide) _ 54 rfl rfl
        have q15 := hD 15 (by decide) _ 55 rfl rfl
        have q16 := hD 16 (by decide) _ 56 rfl rfl
        have q17 := hD 17 (by decide) _ 57 rfl rfl
        have q18 := hD 18 (by decide) _ 58 rfl rfl
        have q19 := hD 19 (by decide) _ 59 rfl rfl
        have q20 := hD 20 (by decide) _ 60 rfl rfl
        have q21 := hD 21 (by decide) _ 61 rfl rfl
        have q22 := hD 22 (by decide) _ 62 rfl rfl
        have q23 := hD 23 (by decide) _ 63 rfl rfl
        have q24 := hD 24 (by decide) _ 64 rfl rfl
        have q25 := hD 25 (by decide) _ 65 rfl rfl
        have q26 := hD 26 (by decide) _ 66 rfl rfl
        have q27 := hD 27 (by decide) _ 67 rfl rfl
        obtain ⟨g, e28, hg, hgN⟩ := hD 28 (by decide) _ 12 rfl rfl
        have q28 : a.tmps.getD 12 undef = .pointer (some ⟨g, 0, none⟩) := by assumption
        have hact := act_puts (a := a) [(40, .slice (some ⟨b, off, none⟩) nl cl), (41, .int .i64 (k : Int)), (42, .pointer (some ⟨b, off + k * 3, none⟩)), (43, .pointer (some ⟨b, off + k * 3, none⟩)), (44, .int .i64 a1), (45, .int .i64 (N : Int)), (46, .int .i64 (a1.tmod N)), (47, .int .i64 (N : Int)), (48, .int .i64 (wrap64 (a1.tmod N + N))), (49, .int .i64 (N : Int)), (50, .int .i64 (r1 : Int)), (51, .slice (some ⟨b, off, none⟩) nl cl), (52, .int .i64 (k : Int)), (53, .pointer (some ⟨b, off + k * 3, none⟩)), (54, .pointer (some ⟨b, off + k * 3 + 1, none⟩)), (55, .int .i64 a2), (56, .int .i64 (N : Int)), (57, .int .i64 (a2.tmod N)), (58, .int .i64 (N : Int)), (59, .int .i64 (wrap64 (a2.tmod N + N))), (60, .int .i64 (N : Int)), (61, .int .i64 (r2 : Int)), (62, .slice (some ⟨b, off, none⟩) nl cl), (63, .int .i64 (k : Int)), (64, .pointer (some ⟨b, off + k * 3, none⟩)), (65, .pointer (some ⟨b, off + k * 3 + 2, none⟩)), (66, .int .i64 a3), (67, .agg #[.int .i64 (r1 : Int), .int .i64 (r2 : Int), .int .i64 a3]), (12, .pointer (some ⟨g, 0, none⟩))] _ hM.tmps hM.defers (by
          intro s v hm
          simp only [List.mem_cons, Prod.mk.injEq, List.not_mem_nil, or_false] at hm
          rcases hm with ⟨rfl, rfl⟩ | ⟨rfl, rfl⟩ | ⟨rfl, rfl⟩ | ⟨rfl, rfl⟩ | ⟨rfl, rfl⟩ | ⟨rfl, rfl⟩ | ⟨rfl, rfl⟩ | ⟨rfl, rfl⟩ | ⟨rfl, rfl⟩ | ⟨rfl, rfl⟩ | ⟨rfl, rfl⟩ | ⟨rfl, rfl⟩ | ⟨rfl, rfl⟩ | ⟨rfl, rfl⟩ | ⟨rfl, rfl⟩ | ⟨rfl, rfl⟩ | ⟨rfl, rfl⟩ | ⟨rfl, rfl⟩ | ⟨rfl, rfl⟩ | ⟨rfl, rfl⟩ | ⟨rfl, rfl⟩ | ⟨rfl, rfl⟩ | ⟨rfl, rfl⟩ | ⟨rfl, rfl⟩ | ⟨rfl, rfl⟩ | ⟨rfl, rfl⟩ | ⟨rfl, rfl⟩ | ⟨rfl, rfl⟩ | ⟨rfl, rfl⟩
          · exact ⟨(by show 40 < 83; decide), q0⟩
          · exact ⟨(by show 41 < 83; decide), q1⟩
          · exact ⟨(by show 42 < 83; decide), q2⟩
          · exact ⟨(by show 43 < 83; decide), q3⟩
          · exact ⟨(by show 44 < 83; decide), q4⟩
          · exact ⟨(by show 45 < 83; decide), q5⟩
          · exact ⟨(by show 46 < 83; decide), q6⟩
          · exact ⟨(by show 47 < 83; decide), q7⟩
          · exact ⟨(by show 48 < 83; decide), q8⟩
          · exact ⟨(by show 49 < 83; decide), q9⟩
          · exact ⟨(by show 50 < 83; decide), q10⟩
          · exact ⟨(by show 51 < 83; decide), q11⟩
          · exact ⟨(by show 52 < 83; decide), q12⟩
          · exact ⟨(by show 53 < 83; decide), q13⟩
          · exact ⟨(by show 54 < 83; decide), q14⟩
          · exact ⟨(by show 55 < 83; decide), q15⟩
          · exact ⟨(by show 56 < 83; decide), q16⟩
          · exact ⟨(by show 57 < 83; decide), q17⟩
          · exact ⟨(by show 58 < 83; decide), q18⟩
          · exact ⟨(by show 59 < 83; decide), q19⟩
          · exact ⟨(by show 60 < 83; decide), q20⟩
          · exact ⟨(by show 61 < 83; decide), q21⟩
          · exact ⟨(by show 62 < 83; decide), q22⟩
          · exact ⟨(by show 63 < 83; decide), q23⟩
          · exact ⟨(by show 64 < 83; decide), q24⟩
          · exact ⟨(by show 65 < 83; decide), q25⟩
          · exact ⟨(by show 66 < 83; decide), q26⟩
          · exact ⟨(by show 67 < 83; decide), q27⟩
          · exact ⟨(by show 12 < 83; decide), q28⟩) (fun s hs => hM.other s (by exact hs))
        rw [hact]
        have hBX := hM.below
        clear hact hD hM hU q0 q1 q2 q3 q4 q5 q6 q7 q8 q9 q10 q11 q12 q13 q14 q15 q16 q17 q18 q19 q20 q21 q22 q23 q24 q25 q26 q27 q28
        simp only [List.foldl, Act.put, List.setIfInBounds_toArray, List.set_cons_succ, List.set_cons_zero, List.drop_succ_cons, List.drop_zero]
        have hgl : g < wx.heap.size := (Array.getElem?_eq_some_iff.1 hg).1
        have y0 := cell_of_row _ _ 0 _ _ _ hg
        have y1 := cell_of_row _ _ 1 _ _ _ hg
        have y2 := cell_of_row _ _ 2 _ _ _ hg
        have f0 := frozen_of_row _ _ 0 _ _ hg
        have f1 := frozen_of_row _ _ 1 _ _ hg
        have f2 := frozen_of_row _ _ 2 _ _ hg
        have zA : (wx.setCell ⟨g, 0, none⟩ (.int .i64 (r1 : Int))).heap[g]? = some (.cells #[.int .i64 (r1 : Int), .int .i64 0, .int .i64 0] 39 (0, 0)) := by rw [heap_setCell_same _ g 0 _ _ _ hg]; rfl
        have zB : ((wx.setCell ⟨g, 0, none⟩ (.int .i64 (r1 : Int))).setCell ⟨g, 1, none⟩ (.int .i64 (r2 : Int))).heap[g]? = some (.cells #[.int .i64 (r1 : Int), .int .i64 (r2 : Int), .int .i64 0] 39 (0, 0)) := by rw [heap_setCell_same _ g 1 _ _ _ zA]; rfl
        have zC : (((wx.setCell ⟨g, 0, none⟩ (.int .i64 (r1 : Int))).setCell ⟨g, 1, none⟩ (.int .i64 (r2 : Int))).setCell ⟨g, 2, none⟩ (.int .i64 a3)).heap[g]? = some (.cells #[.int .i64 (r1 : Int), .int .i64 (r2 : Int), .int .i64 a3] 39 (0, 0)) := by rw [heap_setCell_same _ g 2 _ _ _ zB]; rfl
        have hbC : Below wr.heap.size wr (((wx.setCell ⟨g, 0, none⟩ (.int .i64 (r1 : Int))).setCell ⟨g, 1, none⟩ (.int .i64 (r2 : Int))).setCell ⟨g, 2, none⟩ (.int .i64 a3)) := ((hBX.setCell (p := ⟨g, 0, none⟩) hgN _).setCell (p := ⟨g, 1, none⟩) hgN _).setCell (p := ⟨g, 2, none⟩) hgN _
        have HZ := Lib_hid (And.intro zC (And.intro hbC hgN))
        clear zA zB zC hbC hg hgN hBX KC hgl e28
        go_upto_region 8 with (fail)
        clear y0 y1 y2 f0 f1 f2
        generalize ((wx.setCell ⟨g, 0, none⟩ (.int .i64 (r1 : Int))).setCell ⟨g, 1, none⟩ (.int .i64 (r2 : Int))).setCell ⟨g, 2, none⟩ (.int .i64 a3) = V at *
        have hEO : EdOk ((r1 : Int), (r2 : Int), a3) := by
          have h1 := HN20.out; have h2 := HR.out.1.1; have h3 := HR.out.2.1; have h4 := H3.out
          have h5 : I64 (r1 : Int) := by unfold I64; omega
          have h6 : I64 (r2 : Int) := by unfold I64; omega
          exact ⟨h5, h6, h4⟩
        have hok : okE N ((r1 : Int), (r2 : Int), a3) = true := okE_iff.2 ⟨by show (0 : Int) ≤ (r1 : Int); omega, by have := HR.out.1.1; show (r1 : Int) < N; omega, by show (0 : Int) ≤ (r2 : Int); omega, by have := HR.out.2.1; show (r2 : Int) < N; omega⟩
        have hDV := hV.out.later HZ.out.2.1
        have hX4 : X.length ≤ 10000 := by have := hX.out; omega
        have hDA := hDV.later (below_new V (.cells #[.int .i64 (r1 : Int), .int .i64 (r2 : Int), .int .i64 a3] 39))
        have GA := Lib_hid (gadd_any (c := 1) hDA.g (rd_edge V ((r1 : Int), (r2 : Int), a3) #[.int .i64 (r1 : Int), .int .i64 (r2 : Int), .int .i64 a3] 39 _ rfl rfl) (by simp) (fun ad e hc => by
          cases e
          exact Nat.lt_irrefl _ (hDV.g.lt _ hc)) (fun e he => by rw [List.mem_singleton.1 he]; exact hEO) (by have := HN20.out; omega) (by decide) (by omega))
        have HDA := Lib_hid hDA
        have HOK := Lib_hid hok
        have HX4 := Lib_hid hX4
        have e0 := cell_of_row _ _ 0 _ _ _ HZ.out.1
        have e1 := cell_of_row _ _ 1 _ _ _ HZ.out.1
        have e2 := cell_of_row _ _ 2 _ _ _ HZ.out.1
        have hVg : g < V.heap.size := (Array.getElem?_eq_some_iff.1 HZ.out.1).1
        clear hDV hDA hok hEO hX4 H3
        go_wp2_with ((go_at_call 16; (with_reducible refine GA.out.mono ?_); rintro r8 w8 (⟨_, rfl, hGE⟩ | ⟨hno, _, _⟩); rotate_left; exact absurd (fun e he => by rw [List.mem_singleton.1 he]; exact HOK.out) hno))
        obtain ⟨S', hg', ht, hs'⟩ := hGE
        have HJ := Lib_hid (HDA.out.turn hg' ht hs')
        have hgS : ¬ S1 g := fun hc => by have h1 := hV.out.g.lt _ hc; have h2 := HZ.out.2.2; omega
        have zg : w8.heap[g]? = some (.cells #[.int .i64 (r1 : Int), .int .i64 (r2 : Int), .int .i64 a3] 39 (0, 0)) := (ht.block g (by simp; omega) hgS).trans ((Below.heap_alloc _ _ _ hVg).trans HZ.out.1)
        have G0 := cell_of_row _ _ 0 _ _ _ zg
        have G1 := cell_of_row _ _ 1 _ _ _ zg
        have G2 := cell_of_row _ _ 2 _ _ _ zg
        have X0 := cell_of_row _ _ 0 _ _ _ HJ.out.x
        have X1 := cell_of_row _ _ 1 _ _ _ HJ.out.x
        have JA := HJ.out.later (below_new w8 (.cells #[.int .i64 (r1 : Int), .int .i64 (r2 : Int), .int .i64 a3] 39))
        have XA0 := cell_of_row _ _ 0 _ _ _ JA.x
        have XA1 := cell_of_row _ _ 1 _ _ _ JA.x
        clear JA
        have HYL : Hid (0 < (addEs X [((r1 : Int), (r2 : Int), a3)]).length ∧ (addEs X [((r1 : Int), (r2 : Int), a3)]).length ≤ k + 1) := ⟨List.length_pos_of_mem (mem_addEs.2 (.inl (List.mem_singleton.2 rfl))), by have h1 := (addEs_len [((r1 : Int), (r2 : Int), a3)] X).2; have h2 := hX.out; simp only [List.length_cons, List.length_nil] at h1; omega⟩
        have ED := Lib_hid (redges_any (w := (w8.alloc (.cells #[.int .i64 (r1 : Int), .int .i64 (r2 : Int), .int .i64 a3] 39)).drew) (c := 1) ((rd_edge w8 ((r1 : Int), (r2 : Int), a3) #[.int .i64 (r1 : Int), .int .i64 (r2 : Int), .int .i64 a3] 39 _ rfl rfl).keep fun _ _ => rfl) (by simp) (by decide))
        have RA := Lib_hid (fun (V9 : World) (A5 : Option Addr) (c5 : Nat) (hb : Below w8.heap.size w8 V9) (h5 : Rd V9 V9.heap.size 3 A5 1 (ec [((r1 : Int), (r2 : Int), a3)])) => radd_any (c := c) (c' := c5) ((HJ.out.rd.below hb).more hb.size) h5 (Nat.le_refl _) (by have := HX4.out; omega) (by decide) (fun e he => by rw [List.mem_singleton.1 he]; exact HOK.out) (by have := HN20.out; omega))
        clear GA HDA ht hg' hs' hgS zg e0 e1 e2 hVg HZ hV HOK HR
        go_region_with ((first
          | (go_at_call 15; refine ED.out.mono ?_; rintro r9 w9 ⟨A5, c5, rfl, ho5, hb5⟩; have hb9 : Below w8.heap.size w8 w9 := (below_new w8 _).drew.trans (hb5.mono (by simp)); have J9 := HJ.out.later hb9; have Y0 := cell_of_row _ _ 0 _ _ _ J9.x; have Y1 := cell_of_row _ _ 1 _ _ _ J9.x)
          | (go_at_call 14; refine (RA.out _ A5 c5 hb9 (Rd.own ho5)).mono ?_; rintro r7 w7 ⟨A6, c6, rfl, hr6, hb6, ho6⟩; have hb7 : Below w8.heap.size w8 w7 := hb9.trans (hb6.mono hb9.size); have J7 := HJ.out.later hb7; have Q0 := cell_of_row _ _ 0 _ _ _ J7.x; have Q1 := cell_of_row _ _ 1 _ _ _ J7.x; have P0 := frozen_of_row _ _ 0 _ _ J7.x; have P1 := frozen_of_row _ _ 1 _ _ J7.x)))
        all_goals
          have HP := Lib_hid (J7.put (c6 := c6) (hr6.lies) hr6 HYL.out.1 ho6 (fun k hk => J7.g.lt k hk) (fun k hk => HJ.out.g.lt k hk) HJ.out.ql hb9.size)
          clear Y0 Y1 Q0 Q1 P0 P1 J7 J9 hr6 hb6 ho6 hb7 hb9 ho5 hb5 XA0 XA1 X0 X1 G0 G1 G2
          go_wp2
          generalize (w7.setCell ⟨q, 0, none⟩ (.int .i64 (N : Int))).setCell ⟨q, 1, none⟩ (.slice A6 (addEs X [((r1 : Int), (r2 : Int), a3)]).length c6) = U at *
          go_roundw
          case rel => exact ⟨k + 1, c6, A6, S', addEs X [((r1 : Int), (r2 : Int), a3)], by go_num, by omega, HYL.out.2, HP.out⟩
          case measure => simp [intOf]; omega
    · have HF : Hid (X.length ≤ nl) := Nat.le_trans hX.out hk
      have hcond : (k = nl) ∨ (k < nl ∧ N = 0) := by omega
      clear hlt
      rcases hcond with rfl | ⟨hlt, rfl⟩
      · have y0 := cell_of_row _ _ 0 _ _ _ hV.out.x
        have y1 := cell_of_row _ _ 1 _ _ _ hV.out.x
        have z0 := cell_of_row _ _ 0 _ _ _ hV.out.z
        have z1' := cell_of_row _ _ 1 _ _ _ hV.out.z
        have f0 := frozen_of_row _ _ 0 _ _ hV.out.z
        have f1 := frozen_of_row _ _ 1 _ _ hV.out.z
        go_wp2
        go_region
        all_goals
          go_wp2
          obtain ⟨zf, HD⟩ := (hV.out.later (w8 := wr.drew) (Below.refl _ _).drew).fin rfl HN20.out HF.out
          have zf2 : (((wr.setCell ⟨w.heap.size, 0, none⟩ (.int .i64 (N : Int))).setCell ⟨w.heap.size, 1, none⟩ (.slice A X.length c)).drew).heap[w.heap.size]? = some (.cells #[.int .i64 (N : Int), .slice A X.length c] 31 (0, 0)) := zf
          have HD2 : DrEnd 20 k w (.returned (.tuple #[.pointer (some ⟨p, 0, none⟩), .agg #[.int .i64 (N : Int), .slice A X.length c]])) (((wr.setCell ⟨w.heap.size, 0, none⟩ (.int .i64 (N : Int))).setCell ⟨w.heap.size, 1, none⟩ (.slice A X.length c)).drew) := HD
          clear zf HD
          generalize ((wr.setCell ⟨w.heap.size, 0, none⟩ (.int .i64 (N : Int))).setCell ⟨w.heap.size, 1, none⟩ (.slice A X.length c)).drew = U at *
          have q0 := cell_of_row _ _ 0 _ _ _ zf2
          have q1 := cell_of_row _ _ 1 _ _ _ zf2
          exact bodyPost_ret (v := .tuple #[.pointer (some ⟨p, 0, none⟩), .agg #[.int .i64 (N : Int), .slice A X.length c]]) (by simp [results, Try.results23, go_sem, q0, q1]) rfl HD2
      · have hki : (k : Int) < (nl : Int) := by omega
        have y0 := cell_of_row _ _ 0 _ _ _ hV.out.x
        have y1 := cell_of_row _ _ 1 _ _ _ hV.out.x
        have z0 := cell_of_row _ _ 0 _ _ _ hV.out.z
        have z1' := cell_of_row _ _ 1 _ _ _ hV.out.z
        have f0 := frozen_of_row _ _ 0 _ _ hV.out.z
        have f1 := frozen_of_row _ _ 1 _ _ hV.out.z
        go_wp2
        go_region
        all_goals
          go_wp2
          obtain ⟨zf, HD⟩ := (hV.out.later (w8 := wr.drew) (Below.refl _ _).drew).fin rfl HN20.out HF.out
          have zf2 : (((wr.setCell ⟨w.heap.size, 0, none⟩ (.int .i64 (0 : Int))).setCell ⟨w.heap.size, 1, none⟩ (.slice A X.length c)).drew).heap[w.heap.size]? = some (.cells #[.int .i64 (0 : Int), .slice A X.length c] 31 (0, 0)) := zf
          have HD2 : DrEnd 20 nl w (.returned (.tuple #[.pointer (some ⟨p, 0, none⟩), .agg #[.int .i64 (0 : Int), .slice A X.length c]])) (((wr.setCell ⟨w.heap.size, 0, none⟩ (.int .i64 (0 : Int))).setCell ⟨w.heap.size, 1, none⟩ (.slice A X.length c)).drew) := HD
          clear zf HD
          generalize ((wr.setCell ⟨w.heap.size, 0, none⟩ (.int .i64 (0 : Int))).setCell ⟨w.heap.size, 1, none⟩ (.slice A X.length c)).drew = U at *
          have q0 := cell_of_row _ _ 0 _ _ _ zf2
          have q1 := cell_of_row _ _ 1 _ _ _ zf2
          exact bodyPost_ret (v := .tuple #[.pointer (some ⟨p, 0, none⟩), .agg #[.int .i64 (0 : Int), .slice A X.length c]]) (by simp [results, Try.results23, go_sem, q0, q1]) rfl HD2

end Go.Proofs.Ytopecdkkmbpnbaa
