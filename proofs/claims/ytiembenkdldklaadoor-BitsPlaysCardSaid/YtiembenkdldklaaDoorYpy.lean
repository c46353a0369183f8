/-
  Layer 8: the statements' does, of any act; what BitsPlays asks plainly.
-/
import Derived.Test.YtiembenkdldklaaDoorYae
import Derived.Test.YtiembenkdldklaaDoorYaf
import Derived.Test.YtiembenkdldklaaDoorYai
import Derived.Test.YtiembenkdldklaaDoorYaj
import Derived.Test.YtiembenkdldklaaDoorYak
import Derived.Test.YtiembenkdldklaaDoorYox
namespace Go.Proofs.YtiembenkdldklaaDoor
open Go Go.RowKit
set_option linter.unusedVariables false

def AcV.val (a : AcV) : Value := .agg #[.int .i64 a.d, .int .i64 a.i, .int .i64 a.z, .slice a.A a.n a.c, .slice a.A2 a.m a.c2, .bool a.own]
def AcV.act (a : AcV) (l : List Bool) : List Bool := actB a.d a.i a.z a.L a.M a.own l
theorem does_any (lo hi p B : Nat) (a : AcV) (v : Value) (l : List Bool) (w : World) (hok : AcOK w B a) (hf : a.n ≤ 40 ∧ a.m ≤ 40 ∧ a.z ≤ 400) (hT : BTab w) (h0 : 0 < lo) (h : BZ w lo hi p l) (hhi : hi ≤ w.heap.size) (hs : DS w w.heap.size v l) (hB : B ≤ w.heap.size) (hap : Ap lo hi v) :
    Calls Tryd.prog 17 #[pv p, v, a.val] w (DoesEnd lo hi p v (a.act l) w) := by
  obtain ⟨d, i, z, A, n, c, A2, m, c2, own, L, M⟩ := a
  have hL := hok.l.more hB
  have hM := hok.m.more hB
  show Calls Tryd.prog _ #[pv p, v, .agg #[.int .i64 d, .int .i64 i, .int .i64 z, .slice A n c, .slice A2 m c2, .bool own]] w (DoesEnd lo hi p v (actB d i z L M own l) w)
  unfold actB
  by_cases h1 : d = 0 ∨ d = 1
  · rw [if_pos h1]
    exact does_add lo hi p w.heap.size n m c c2 d i z A A2 own v l w h1 h hhi hs (Nat.le_refl _) hap
  rw [if_neg h1]
  by_cases h2 : d = 2
  · rw [if_pos h2]
    exact does_rem lo hi p w.heap.size n m c c2 d i z A A2 own v l w h2 h hhi hs (Nat.le_refl _) hap
  rw [if_neg h2]
  by_cases h3 : d = 3 ∨ d = 4 ∨ d = 5
  · rw [if_pos h3]
    rcases h3 with h3 | h3 | h3
    · exact does_do0 lo hi p w.heap.size n m c c2 d i z A A2 L M own v l w h3 ⟨hok.z.1, hf.2.2⟩ hL hM hf.1 hf.2.1 hok.ln hok.mn hT h0 h hhi hs (Nat.le_refl _) hap
    · exact does_do1 lo hi p w.heap.size n m c c2 d i z A A2 L M own v l w h3 ⟨hok.z.1, hf.2.2⟩ hL hM hf.1 hf.2.1 hok.ln hok.mn hT h0 h hhi hs (Nat.le_refl _) hap
    · exact does_do2 lo hi p w.heap.size n m c c2 d i z A A2 L M own v l w h3 ⟨hok.z.1, hf.2.2⟩ hL hM hf.1 hf.2.1 hok.ln hok.mn hT h0 h hhi hs (Nat.le_refl _) hap
  · rw [if_neg h3]
    exact does_none lo hi p w.heap.size n m c c2 d i z A A2 own v l w (by omega) h hhi hs (Nat.le_refl _) hap

/-- A set of one number. -/
theorem cnt_one (n i : Nat) : (List.range n).countP (fun j => decide (j = i)) = if i < n then 1 else 0 := by
  induction n with
  | zero => simp
  | succ n ih =>
    rw [List.range_succ, List.countP_append, ih]
    rcases Nat.lt_trichotomy i n with h | h | h
    · rw [if_pos h, if_pos (by omega)]; simp; omega
    · subst h; rw [if_neg (by omega), if_pos (by omega)]; simp
    · rw [if_neg (by omega), if_neg (by omega)]; simp; omega
theorem allB_one (n i : Nat) (h : i < n) : (allB (addB (List.replicate n false) (i : Int))).length = 1 := by
  have e : addB (List.replicate n false) (i : Int) = (List.replicate n false).set i true := by unfold addB; rw [if_pos (by simp; omega)]; simp
  rw [allB_count, e]
  have : (List.range ((List.replicate n false).set i true).length).countP (bt ((List.replicate n false).set i true)) = (List.range n).countP (fun j => decide (j = i)) := by
    rw [List.length_set, List.length_replicate]
    refine List.countP_congr fun j hj => ?_
    have hj := List.mem_range.1 hj
    rw [bt_lt (by simpa using hj)]
    simp only [List.getElem_set]
    by_cases e : i = j
    · subst e; simp
    · rw [if_neg e]; simp; omega
  rw [this, cnt_one, if_pos h]

/-- Between two acts: the set, the document's set in its box. -/
structure PlK (w W : World) (lo hi p b9 : Nat) (A : Option Addr) (c : Nat) (l : List Bool) : Prop where
  z : BZ W lo hi p l
  box : W.heap[b9]? = some (.cells #[.slice A l.length c] 33 (0, 0))
  d : DS W W.heap.size (.agg #[.slice A l.length c]) l
  ap : Ap lo hi (.agg #[.slice A l.length c])
  b : Below w.heap.size w W
  o : w.heap.size ≤ lo ∧ lo ≤ hi ∧ hi ≤ b9
section
variable {w W X : World} {lo hi p b9 c : Nat} {A : Option Addr} {l : List Bool}
theorem PlK.lt (h : PlK w W lo hi p b9 A c l) : b9 < W.heap.size := (Array.getElem?_eq_some_iff.1 h.box).1
theorem PlK.le (h : PlK w W lo hi p b9 A c l) : hi ≤ W.heap.size := by have := h.lt; have := h.o; omega
theorem PlK.len (h : PlK w W lo hi p b9 A c l) : l.length ≤ 65536 := by obtain ⟨_, _, _, _, _, h⟩ := h.d; exact h
theorem PlK.below (h : PlK w W lo hi p b9 A c l) (hb : Below W.heap.size W X) : PlK w X lo hi p b9 A c l :=
  ⟨h.z.below hb h.le, (hb.block _ h.lt).trans h.box, (h.d.below hb).more hb.size, h.ap, h.b.trans (hb.mono h.b.size), h.o⟩
theorem PlK.cell (h : PlK w W lo hi p b9 A c l) : W.cell? ⟨b9, 0, none⟩ = some (.slice A l.length c) := cell_of_row _ _ 0 _ _ _ h.box
end

/-- Behind the copy: it, and what the set was, in a box. -/
structure CpK (w W V : World) (loc hic pc b12 : Nat) (A : Option Addr) (c : Nat) (l : List Bool) : Prop where
  z : BZ V loc hic pc l
  box : V.heap[b12]? = some (.cells #[.slice A l.length c] 33 (0, 0))
  b : Below W.heap.size W V
  o : W.heap.size ≤ loc ∧ loc ≤ hic ∧ hic ≤ V.heap.size ∧ W.heap.size ≤ b12
/-- Behind the act: the set, the document's in a new box. -/
structure DoK8 (V U : World) (lo hi p b13 : Nat) (A2 : Option Addr) (c2 : Nat) (l2 : List Bool) : Prop where
  z : BZ U lo hi p l2
  box : U.heap[b13]? = some (.cells #[.slice A2 l2.length c2] 33 (0, 0))
  d : DS U U.heap.size (.agg #[.slice A2 l2.length c2]) l2
  ap : Ap lo hi (.agg #[.slice A2 l2.length c2])
  t : Turns (fun k => lo ≤ k ∧ k < hi) V U
  o : V.heap.size ≤ b13

section
variable {w wr ws X V U : World} {lo hi p b9 c loc hic pc b12 b13 c2 : Nat} {A A2 : Option Addr} {l l2 : List Bool}
theorem cp1 (hX : X.heap.size = wr.heap.size) (hzc : BZ ws X.heap.size ws.heap.size pc l) (hb' : Below X.heap.size X ws) (hb : Below wr.heap.size wr ws) :
    CpK w wr (ws.alloc (.cells #[.slice A l.length c] 33)) X.heap.size ws.heap.size pc ws.heap.size A c l :=
  ⟨hzc.below (below_new ws _) (Nat.le_refl _), heap_alloc_new ws _, hb.alloc hb.size _, by rw [hX]; exact ⟨Nat.le_refl _, hb.size, by simp, hb.size⟩⟩
theorem cp2 (hX : X.heap.size = wr.heap.size + 1) (hzc : BZ ws X.heap.size ws.heap.size pc l) (hb' : Below X.heap.size X ws) (hb : Below wr.heap.size wr ws) (bx : Bx ws wr.heap.size) :
    CpK w wr (ws.setCell ⟨wr.heap.size, 0, none⟩ (.slice A l.length c)) X.heap.size ws.heap.size pc wr.heap.size A c l :=
  ⟨hzc.turns (turns_setCell ws wr.heap.size 0 _) (fun k h1 h2 e => by omega), bx.row _ _ _, hb.setCell (p := ⟨wr.heap.size, 0, none⟩) (Nat.le_refl _) _, by have := hb'.size; have := (turns_setCell ws wr.heap.size 0 (.slice A l.length c)).size; omega⟩
theorem dk1 (hX : X.heap.size = V.heap.size) (ht : Turns (fun k => lo ≤ k ∧ k < hi) V ws) (hhi : hi ≤ V.heap.size) (hz : BZ ws lo hi p l2) (hd : DS ws ws.heap.size (.agg #[.slice A2 l2.length c2]) l2)
    (hap : Ap lo hi (.agg #[.slice A l.length c])) (hf : .agg #[.slice A2 l2.length c2] = Value.agg #[.slice A l.length c] ∨ Fr X.heap.size (.agg #[.slice A2 l2.length c2])) :
    DoK8 V (ws.alloc (.cells #[.slice A2 l2.length c2] 33)) lo hi p ws.heap.size A2 c2 l2 :=
  ⟨hz.below (below_new ws _) (Nat.le_trans hhi ht.size), heap_alloc_new ws _, hd.alloced _, by rcases hf with e | e; exact e ▸ hap; exact e.ap (by omega), ht.trans_ (turns_alloc _ ws _), ht.size⟩
theorem dk2 (hX : X.heap.size = V.heap.size + 1) (ht : Turns (fun k => lo ≤ k ∧ k < hi) V ws) (hhi : hi ≤ V.heap.size) (hz : BZ ws lo hi p l2) (hd : DS ws ws.heap.size (.agg #[.slice A2 l2.length c2]) l2)
    (hap : Ap lo hi (.agg #[.slice A l.length c])) (hf : .agg #[.slice A2 l2.length c2] = Value.agg #[.slice A l.length c] ∨ Fr X.heap.size (.agg #[.slice A2 l2.length c2])) (bx : Bx ws V.heap.size) :
    DoK8 V (ws.setCell ⟨V.heap.size, 0, none⟩ (.slice A2 l2.length c2)) lo hi p V.heap.size A2 c2 l2 :=
  ⟨hz.turns (turns_setCell ws V.heap.size 0 _) (fun k h1 h2 e => by omega), bx.row _ _ _, hd.boxed bx, by rcases hf with e | e; exact e ▸ hap; exact e.ap (by omega), ht.trans (turns_setCell ws V.heap.size 0 _) (fun k e => .inr (Nat.le_of_eq e.symm)), Nat.le_refl _⟩
/-- The box kept over an act, where it was made ahead of it. -/
theorem bx_turn (hhi : hi ≤ V.heap.size) (ht : Turns (fun k => lo ≤ k ∧ k < hi) (V.alloc (.cells #[.slice none 0 0] 33)).drew ws) : Bx ws V.heap.size :=
  (ht.block V.heap.size (by show _ < (V.alloc _).heap.size; simp) (by show ¬ (lo ≤ V.heap.size ∧ V.heap.size < hi); omega)).trans (Bx.new V)
theorem pl_store (hP : PlK w wr lo hi p b9 A c l) (hC : CpK w wr V loc hic pc b12 A c l) (hD : DoK8 V U lo hi p b13 A2 c2 l2) :
    PlK w (U.setCell ⟨b9, 0, none⟩ (.slice A2 l2.length c2)) lo hi p b9 A2 c2 l2 ∧ BZ (U.setCell ⟨b9, 0, none⟩ (.slice A2 l2.length c2)) loc hic pc l ∧ (U.setCell ⟨b9, 0, none⟩ (.slice A2 l2.length c2)).heap[b12]? = some (.cells #[.slice A l.length c] 33 (0, 0)) ∧
      DS (U.setCell ⟨b9, 0, none⟩ (.slice A2 l2.length c2)) (U.setCell ⟨b9, 0, none⟩ (.slice A2 l2.length c2)).heap.size (.agg #[.slice A l.length c]) l ∧ hic ≤ (U.setCell ⟨b9, 0, none⟩ (.slice A2 l2.length c2)).heap.size ∧
      U.cell? ⟨b9, 0, none⟩ = some (.slice A l.length c) ∧ U.frozen? ⟨b9, 0, none⟩ = false := by
  have h1 := hP.lt
  have h2 := hP.le
  have h3 := hP.o
  have h4 := hC.o
  have h5 := hC.b.size
  have h6 := hD.t.size
  have hPV := hP.below hC.b
  have hb9 : U.heap[b9]? = some (.cells #[.slice A l.length c] 33 (0, 0)) := (hD.t.block b9 (by omega) (by show ¬ (lo ≤ b9 ∧ b9 < hi); omega)).trans hPV.box
  have hl12 := (Array.getElem?_eq_some_iff.1 hC.box).1
  have ts := turns_setCell U b9 0 (.slice A2 l2.length c2)
  have hdV := hPV.d.turns (Nat.le_refl _) hP.ap hD.t
  refine ⟨⟨hD.z.turns ts (fun k a b e => by omega), by rw [heap_setCell_same U b9 0 _ _ _ hb9]; rfl, (hD.d.setBox hb9).more ts.size, hD.ap, (hPV.b.trans (hD.t.below hPV.b.size (fun k e => by omega))).setCell (p := ⟨b9, 0, none⟩) (by show w.heap.size ≤ b9; omega) _, h3⟩, (hC.z.turns hD.t (fun k a b e => by omega)).turns ts (fun k a b e => by omega), (heap_setCell_other _ _ _ _ (by show b12 ≠ b9; omega)).trans ((hD.t.block b12 (by omega) (by show ¬ (lo ≤ b12 ∧ b12 < hi); omega)).trans hC.box), (hdV.setBox hb9).more (Nat.le_trans h6 ts.size), Nat.le_trans (by omega) ts.size, cell_of_row _ _ 0 _ _ _ hb9, frozen_of_row _ _ 0 _ _ hb9⟩
end

end Go.Proofs.YtiembenkdldklaaDoor
