/-
  Layer 8: the statements' does: a Join, a Meet, a Less: what holds behind the document's Do.
-/
import Derived.Test.YtiembenkdldklaaDoorYag
import Derived.Test.YtiembenkdldklaaDoorYwk
namespace Go.Proofs.YtiembenkdldklaaDoor
open Go Go.RowKit
set_option linter.unusedVariables false

/-- The two boxes, the second one perhaps written over. -/
structure YS (wc W : World) (lo hi g1 g2 : Nat) (A3 : Option Addr) (c3 : Nat) (lx : List Bool) (A6 : Option Addr) (c6 : Nat) (m2 : List Bool) : Prop where
  t : Turns (fun k => k = g2) wc W
  h1 : W.heap[g1]? = some (.cells #[.slice A3 lx.length c3] 33 (0, 0))
  h2 : W.heap[g2]? = some (.cells #[.slice A6 m2.length c6] 33 (0, 0))
  d1 : DS W W.heap.size (.agg #[.slice A3 lx.length c3]) lx
  d2 : DS W W.heap.size (.agg #[.slice A6 m2.length c6]) m2
  a2 : Ap lo hi (.agg #[.slice A6 m2.length c6])
/-- The second set: the set itself, or another one of the program's. -/
def SS (W : World) (lo hi p : Nat) (l : List Bool) (own : Bool) (s : Value) (m : List Bool) : Prop :=
  (own = true ∧ s = pv p ∧ m = l) ∨ (own = false ∧ ∃ q lo' hi', s = pv q ∧ BZ W lo' hi' q m ∧ hi ≤ lo' ∧ hi' ≤ W.heap.size)
section
variable {wy W X : World} {lo hi p g1 g2 c3 c4 c : Nat} {A A3 A4 : Option Addr} {l lx ly m : List Bool} {own : Bool} {s : Value}
theorem SS.turns {S : Nat → Prop} (h : SS W lo hi p l own s m) (t : Turns S W X) (hS : ∀ k, hi ≤ k → k < W.heap.size → ¬ S k) : SS X lo hi p l own s m := by
  rcases h with h | ⟨h, q, lo', hi', e, hz, h1, h2⟩
  · exact .inl h
  · exact .inr ⟨h, q, lo', hi', e, hz.turns t (fun k a b => hS k (by omega) (by omega)), h1, Nat.le_trans h2 t.size⟩
theorem SS.oth (h : SS W lo hi p l own s m) : OthX W lo hi p l s m := by
  rcases h with ⟨_, h⟩ | ⟨h, q, lo', hi', e, hz, h1, h2⟩
  · exact .inr (.inl h)
  · exact .inr (.inr ⟨q, lo', hi', e, hz, .inr h1⟩)
theorem Two.stay (h : Two wy W g1 g2 A3 c3 A4 c4 lx ly) (ha : Ap lo hi (.agg #[.slice A4 ly.length c4])) : YS W W lo hi g1 g2 A3 c3 lx A4 c4 ly := ⟨Turns.refl _ _, h.h1, h.h2, h.d1, h.d2, ha⟩
theorem Two.owns (h : Two wy W g1 g2 A3 c3 A4 c4 lx ly) (hd : DS W W.heap.size (.agg #[.slice A l.length c]) l) (ha : Ap lo hi (.agg #[.slice A l.length c])) :
    YS W (W.setCell ⟨g2, 0, none⟩ (.slice A l.length c)) lo hi g1 g2 A3 c3 lx A c l :=
  ⟨turns_setCell W g2 0 _, (heap_setCell_other _ _ _ _ h.ne.1).trans h.h1, by rw [heap_setCell_same W g2 0 _ _ _ h.h2]; rfl, (h.d1.setBox h.h2).more (turns_setCell W g2 0 _).size, (hd.setBox h.h2).more (turns_setCell W g2 0 _).size, ha⟩
end

/-- Behind the document's Do. -/
theorem do_world (lo hi p lo1 hi1 px g1 g2 cc c3 c5 c6 : Nat) (A A3 A5 A6 : Option Addr) (d i z : Int) (L1 L2 s2 : Value) (own : Bool) (l lx m2 l' : List Bool) (w wc W9 w11 : World)
    (hT : BTab w) (h0 : 0 < lo) (hhi : hi ≤ w.heap.size) (hb9 : Below w.heap.size w W9) (hg1 : w.heap.size + 3 ≤ g1) (hg2 : w.heap.size + 3 ≤ g2)
    (y1 : W9.heap[w.heap.size + 1]? = some (.cells #[.int .i64 d, .int .i64 i, .int .i64 z, L1, L2, .bool own] 39 (0, 0)))
    (y2 : W9.heap[w.heap.size + 2]? = some (.cells #[.slice none 0 0] 33 (0, 0)))
    (Y : YS wc W9 lo hi g1 g2 A3 c3 lx A6 c6 m2) (a1 : Ap lo hi (.agg #[.slice A3 lx.length c3]))
    (hz : BZ W9 lo hi p l) (hx : BZ W9 lo1 hi1 px lx) (hx1 : hi ≤ lo1) (hx2 : hi1 ≤ W9.heap.size) (hs : SS W9 lo hi p l own s2 m2) (hlx : lx.length ≤ 65536) (hm2 : m2.length ≤ 65536)
    (hap : Ap lo hi (.agg #[.slice A l.length cc])) (hd5 : DS w11 w11.heap.size (.agg #[.slice A5 l'.length c5]) l') (hf5 : Fr W9.heap.size (.agg #[.slice A5 l'.length c5])) (hb11 : Below W9.heap.size W9 w11) :
    ∃ W13 nb, W13 = (w11.alloc (.cells #[.slice A5 l'.length c5] 33)).alloc (.cells #[pv px, s2] 26) ∧ nb = w11.heap.size + 1 ∧
      (BZ W13 lo hi p l ∧ hi ≤ W13.heap.size ∧ Rd W13 W13.heap.size 1 (some ⟨nb, 0, none⟩) 2 [pv px, s2] ∧ OthL W13 lo hi p l [pv px, s2] [lx, m2] ∧ ∀ ad, some (⟨nb, 0, none⟩ : Addr) = some ad → hi ≤ ad.block ∨ ad.block < lo) ∧
      (∀ X, Turns (fun k => lo ≤ k ∧ k < hi) W13 X → X.cell? ⟨w11.heap.size, 0, none⟩ = some (.slice A5 l'.length c5) ∧ X.cell? ⟨g1, 0, none⟩ = some (.slice A3 lx.length c3) ∧ X.cell? ⟨g2, 0, none⟩ = some (.slice A6 m2.length c6) ∧ X.cell? ⟨w.heap.size + 1, 5, none⟩ = some (.bool own) ∧ X.cell? ⟨w.heap.size + 2, 0, none⟩ = some (.slice none 0 0) ∧ X.frozen? ⟨w.heap.size + 2, 0, none⟩ = false ∧
        (X.setCell ⟨w.heap.size + 2, 0, none⟩ (.slice A5 l'.length c5)).cell? ⟨w.heap.size + 2, 0, none⟩ = some (.slice A5 l'.length c5)) ∧
      (∀ X, Turns (fun k => lo ≤ k ∧ k < hi) W13 X → Calls Tryd.prog 18 #[pv px, .agg #[.slice A3 lx.length c3]] X fun e w' => e = .returned (.bool true) ∧ Below X.heap.size X w') ∧
      (own = false → ∀ X, Turns (fun k => lo ≤ k ∧ k < hi) W13 X → Calls Tryd.prog 18 #[s2, .agg #[.slice A6 m2.length c6]] X fun e w' => e = .returned (.bool true) ∧ Below X.heap.size X w') ∧
      (∀ X, Turns (fun k => lo ≤ k ∧ k < hi) W13 X → BZ X lo hi p l' → DoesEnd lo hi p (.agg #[.slice A l.length cc]) l' w (.returned (.tuple #[.agg #[.slice A5 l'.length c5], .bool true])) (X.setCell ⟨w.heap.size + 2, 0, none⟩ (.slice A5 l'.length c5))) := by
  have hs9 := hb9.size
  have hs11 := hb11.size
  have hbA := below_new w11 (.cells #[.slice A5 l'.length c5] 33)
  have hbB := below_new (w11.alloc (.cells #[.slice A5 l'.length c5] 33)) (.cells #[pv px, s2] 26)
  have hr5 := (heap_alloc_old (w11.alloc (.cells #[.slice A5 l'.length c5] 33)) (.cells #[pv px, s2] 26) (by simp : w11.heap.size < _)).trans (heap_alloc_new w11 (.cells #[.slice A5 l'.length c5] 33))
  have hrd := lit_vs (w11.alloc (.cells #[.slice A5 l'.length c5] 33)) [pv px, s2] 26
  have hbC := hbA.trans (hbB.mono hbA.size)
  have hsz : ((w11.alloc (.cells #[.slice A5 l'.length c5] 33)).alloc (.cells #[pv px, s2] 26)).heap.size = w11.heap.size + 2 := by simp
  rw [World.size_alloc] at hrd
  refine ⟨_, _, rfl, rfl, ?_⟩
  change Rd ((w11.alloc (.cells #[.slice A5 l'.length c5] 33)).alloc (.cells #[pv px, s2] 26)) _ _ _ _ _ at hrd
  generalize (w11.alloc (.cells #[.slice A5 l'.length c5] 33)).alloc (.cells #[pv px, s2] 26) = W13 at *
  have hb13 : Below W9.heap.size W9 W13 := hb11.trans (hbC.mono hs11)
  have hbw := hb9.trans (hb13.mono hs9)
  have k1 := (hb13.block _ (Array.getElem?_eq_some_iff.1 y1).1).trans y1
  have k2 := (hb13.block _ (Array.getElem?_eq_some_iff.1 y2).1).trans y2
  have k3 := (hb13.block _ (Array.getElem?_eq_some_iff.1 Y.h1).1).trans Y.h1
  have k4 := (hb13.block _ (Array.getElem?_eq_some_iff.1 Y.h2).1).trans Y.h2
  have hd1 := (Y.d1.below hb13).more hb13.size
  have hd2 := (Y.d2.below hb13).more hb13.size
  have hx13 := hx.below hb13 hx2
  have hs13 := hs.turns (Turns.of_below (S := fun _ => False) hb13) (fun _ _ _ h => h)
  have hT13 := hT.below hbw hT.1
  have hd5' := (hd5.below hbC).more hbC.size
  have hlt := hb13.size
  have T0 : ∀ {X}, Turns (fun k => lo ≤ k ∧ k < hi) W13 X → BTab X := fun t => hT13.turns t (by show ¬ (lo ≤ 0 ∧ 0 < hi); omega)
  refine ⟨⟨hz.below hb13 (by omega), by omega, hrd.more (by omega), ⟨rfl, fun j hj => ?_⟩, fun ad e => .inl (by injection e with e; rw [← e]; show hi ≤ w11.heap.size + 1; omega)⟩, fun X t => ?_, fun X t => ?_, fun ho X t => ?_, fun X t hzx => ?_⟩
  · have : j = 0 ∨ j = 1 := by simp at hj; omega
    rcases this with rfl | rfl
    · exact ⟨_, rfl, .inr (.inr ⟨px, lo1, hi1, rfl, hx13, .inr hx1⟩)⟩
    · exact ⟨_, rfl, hs13.oth⟩
  · have KB : ∀ {b : Nat} {o : Obj}, hi ≤ b → W13.heap[b]? = some o → X.heap[b]? = some o := fun {b o} hb h => (t.block b (Array.getElem?_eq_some_iff.1 h).1 (by show ¬ (lo ≤ b ∧ b < hi); omega)).trans h
    have z2 := KB (by omega) k2
    have e2 := cell_of_row _ _ 0 _ _ _ z2
    exact ⟨cell_of_row _ _ 0 _ _ _ (KB (by omega) hr5), cell_of_row _ _ 0 _ _ _ (KB (by omega) k3), cell_of_row _ _ 0 _ _ _ (KB (by omega) k4), cell_of_row _ _ 5 _ _ _ (KB (by omega) k1), e2, frozen_of_row _ _ 0 _ _ z2, World.cell?_setCell_same' _ _ _ (by rw [e2]; rfl)⟩
  · exact is_any lo1 hi1 px X.heap.size lx _ X (T0 t) (hx13.turns t (fun k h1 h2 e => by omega)) (by have := t.size; omega) ((hd1.turns (Nat.le_refl _) a1 t).more t.size) (Nat.le_refl _) hlx
  · rcases hs13 with ⟨h, _⟩ | ⟨_, q, lo', hi', rfl, hzq, h1, h2⟩
    · rw [ho] at h; cases h
    · exact is_any lo' hi' q X.heap.size m2 _ X (T0 t) (hzq.turns t (fun k h1 h2 e => by omega)) (by have := t.size; omega) ((hd2.turns (Nat.le_refl _) Y.a2 t).more t.size) (Nat.le_refl _) hm2
  · exact mid_end hbw hhi k2 hd5' hap (.inr (hf5.less (by omega))) t hzx

theorem DS.turnsP {w X : World} {B : Nat} {S : Nat → Prop} {v : Value} {l : List Bool} (h : DS w B v l) (hB : B ≤ w.heap.size) (ha : ∀ A n c, v = .agg #[.slice A n c] → ∀ k, ob A = some k → ¬ S k) (t : Turns S w X) : DS X B v l := by
  obtain ⟨A, c, rfl, hr, hc⟩ := h
  refine ⟨A, c, rfl, ⟨hr.len, fun h0 => ?_⟩, hc⟩
  obtain ⟨ad, e1, hb, hcell⟩ := hr.lies h0
  refine ⟨ad, e1, hb, fun j y hy => ?_⟩
  have hq := ha A _ _ rfl ad.block (by rw [e1]; rfl)
  rw [← hcell j y hy]
  exact t.cell (by rw [add_block]; omega) (by rw [add_block]; exact hq)

/-- Likewise, where the set itself is the second one, and the last store may have been done. -/
theorem do_own (lo hi p lo1 hi1 px g1 g2 cc c3 c5 c6 : Nat) (A A3 A5 A6 : Option Addr) (d i z : Int) (L1 L2 s2 : Value) (own : Bool) (l lx m2 l' : List Bool) (w wc W9 w11 W13 : World)
    (hW13 : W13 = (w11.alloc (.cells #[.slice A5 l'.length c5] 33)).alloc (.cells #[pv px, s2] 26))
    (hT : BTab w) (h0 : 0 < lo) (hhi : hi ≤ w.heap.size) (hb9 : Below w.heap.size w W9) (hs3 : w.heap.size + 3 ≤ W9.heap.size) (hg1 : w.heap.size + 3 ≤ g1) (hg2 : w.heap.size + 3 ≤ g2)
    (y1 : W9.heap[w.heap.size + 1]? = some (.cells #[.int .i64 d, .int .i64 i, .int .i64 z, L1, L2, .bool own] 39 (0, 0)))
    (y2 : W9.heap[w.heap.size + 2]? = some (.cells #[.slice none 0 0] 33 (0, 0)))
    (Y : YS wc W9 lo hi g1 g2 A3 c3 lx A6 c6 m2) (a1 : Fr (w.heap.size + 3) (.agg #[.slice A3 lx.length c3]))
    (hz : BZ W9 lo hi p l) (hx : BZ W9 lo1 hi1 px lx) (hx1 : w.heap.size + 3 ≤ lo1) (hx2 : hi1 ≤ W9.heap.size) (hlx : lx.length ≤ 65536)
    (hd5 : DS w11 w11.heap.size (.agg #[.slice A5 l'.length c5]) l') (hf5 : Fr W9.heap.size (.agg #[.slice A5 l'.length c5])) (hb11 : Below W9.heap.size W9 w11) :
      W13.heap[w.heap.size + 2]? = some (.cells #[.slice none 0 0] 33 (0, 0)) ∧
      (∀ X, Turns (fun k => (lo ≤ k ∧ k < hi) ∨ k = w.heap.size + 2) W13 X → X.cell? ⟨w11.heap.size, 0, none⟩ = some (.slice A5 l'.length c5) ∧ X.cell? ⟨g1, 0, none⟩ = some (.slice A3 lx.length c3) ∧ X.cell? ⟨w.heap.size + 1, 5, none⟩ = some (.bool own) ∧ hi ≤ X.heap.size ∧ w.heap.size + 2 < X.heap.size) ∧
      (∀ X, Turns (fun k => (lo ≤ k ∧ k < hi) ∨ k = w.heap.size + 2) W13 X → Calls Tryd.prog 18 #[pv px, .agg #[.slice A3 lx.length c3]] X fun e w' => e = .returned (.bool true) ∧ Below X.heap.size X w') ∧
      (∀ X, Turns (fun k => (lo ≤ k ∧ k < hi) ∨ k = w.heap.size + 2) W13 X → BZ X lo hi p l' → DoesEnd lo hi p (.agg #[.slice A l.length cc]) l' w (.returned (.tuple #[.agg #[.slice A5 l'.length c5], .bool true])) X) := by
  have hs9 := hb9.size
  have hs11 := hb11.size
  have hbA := below_new w11 (.cells #[.slice A5 l'.length c5] 33)
  have hbB := below_new (w11.alloc (.cells #[.slice A5 l'.length c5] 33)) (.cells #[pv px, s2] 26)
  have hr5 := (heap_alloc_old (w11.alloc (.cells #[.slice A5 l'.length c5] 33)) (.cells #[pv px, s2] 26) (by simp : w11.heap.size < _)).trans (heap_alloc_new w11 (.cells #[.slice A5 l'.length c5] 33))
  have hbC := hbA.trans (hbB.mono hbA.size)
  have hsz : ((w11.alloc (.cells #[.slice A5 l'.length c5] 33)).alloc (.cells #[pv px, s2] 26)).heap.size = w11.heap.size + 2 := by simp
  rw [← hW13] at hbC hr5 hsz
  clear hbA hbB hW13
  have hb13 : Below W9.heap.size W9 W13 := hb11.trans (hbC.mono hs11)
  have hbw := hb9.trans (hb13.mono hs9)
  have k1 := (hb13.block _ (Array.getElem?_eq_some_iff.1 y1).1).trans y1
  have k2 := (hb13.block _ (Array.getElem?_eq_some_iff.1 y2).1).trans y2
  have k3 := (hb13.block _ (Array.getElem?_eq_some_iff.1 Y.h1).1).trans Y.h1
  have hd1 := (Y.d1.below hb13).more hb13.size
  have hx13 := hx.below hb13 hx2
  have hT13 := hT.below hbw hT.1
  have hd5' := (hd5.below hbC).more hbC.size
  have hlt := hb13.size
  refine ⟨k2, fun X t => ?_, fun X t => ?_, fun X t hzx => ?_⟩
  · have KB : ∀ {b : Nat} {o : Obj}, hi ≤ b → b ≠ w.heap.size + 2 → W13.heap[b]? = some o → X.heap[b]? = some o := fun {b o} hb hn h => (t.block b (Array.getElem?_eq_some_iff.1 h).1 (by show ¬ ((lo ≤ b ∧ b < hi) ∨ b = w.heap.size + 2); omega)).trans h
    have := t.size
    exact ⟨cell_of_row _ _ 0 _ _ _ (KB (by omega) (by omega) hr5), cell_of_row _ _ 0 _ _ _ (KB (by omega) (by omega) k3), cell_of_row _ _ 5 _ _ _ (KB (by omega) (by omega) k1), by omega, by omega⟩
  · exact is_any lo1 hi1 px X.heap.size lx _ X (hT13.turns t (by show ¬ ((lo ≤ 0 ∧ 0 < hi) ∨ 0 = w.heap.size + 2); omega)) (hx13.turns t (fun k h1 h2 e => by omega)) (by have := t.size; omega) ((hd1.turnsP (Nat.le_refl _) (fun A n c e k hk hc => by have := a1 A n c e k hk; omega) t).more t.size) (Nat.le_refl _) hlx
  · refine ⟨A5, c5, rfl, ⟨((hd5'.turnsP (Nat.le_refl _) (fun A n c e k hk hc => by have := hf5 A n c e k hk; omega) t).more t.size), .inr (hf5.less (by omega))⟩, hzx, ?_⟩
    exact (Turns.of_below hbw).trans t (fun k e => e.elim .inl fun h => .inr (by omega))

end Go.Proofs.YtiembenkdldklaaDoor
