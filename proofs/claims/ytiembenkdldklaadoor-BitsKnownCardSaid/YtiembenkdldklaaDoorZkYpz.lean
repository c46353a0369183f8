/-
  Layer 8: the statements' does, of any act; what BitsPlays asks plainly.
  Layer 8: BitsPlays: the walk.
-/
import Derived.Test.YtiembenkdldklaaDoorYae
import Derived.Test.YtiembenkdldklaaDoorYaf
import Derived.Test.YtiembenkdldklaaDoorYai
import Derived.Test.YtiembenkdldklaaDoorYaj
import Derived.Test.YtiembenkdldklaaDoorYak
import Derived.Test.YtiembenkdldklaaDoorYox
import Derived.Deep.DeepCutAuto
import Derived.Deep.CutBlock

namespace Go.Proofs.YtiembenkdldklaaDoor
open Go Go.RowKit
set_option linter.unusedVariables false

def AcV.val (a : AcV) : Value := .agg #[.int .i64 a.d, .int .i64 a.i, .int .i64 a.z, .slice a.A a.n a.c, .slice a.A2 a.m a.c2, .bool a.own]
def AcV.act (a : AcV) (l : List Bool) : List Bool := actB a.d a.i a.z a.L a.M a.own l
theorem does_any (lo hi p B : Nat) (a : AcV) (v : Value) (l : List Bool) (w : World) (hok : AcOK w B a) (hf : a.n ≤ 40 ∧ a.m ≤ 40 ∧ a.z ≤ 400) (hT : BTab w) (h0 : 0 < lo) (h : BZ w lo hi p l) (hhi : hi ≤ w.heap.size) (hs : DS w w.heap.size v l) (hB : B ≤ w.heap.size) (hap : Ap lo hi v) :
    Calls Tryd.prog 17 #[pv p, v, a.val] w (DoesEnd lo hi p v (a.act l) w) := by
  obtain ⟨d, i, z, A, n, c, A2, m, c2, own, L, M⟩ := a
  have hL := hok.l.more hB
  have hM := hok.m.more hB
  show Calls Tryd.prog _ #[pv p, v, .agg #[.int .i64 d, .int .i64 i, .int .i64 z, .slice A n c, .slice A2 m c2, .bool own]] w (DoesEnd lo hi p v (actB d i z L M own l) w)
  unfold actB
  by_cases h1 : d = 0 ∨ d = 1
  · rw [if_pos h1]
    exact does_add lo hi p w.heap.size n m c c2 d i z A A2 own v l w h1 h hhi hs (Nat.le_refl _) hap
  rw [if_neg h1]
  by_cases h2 : d = 2
  · rw [if_pos h2]
    exact does_rem lo hi p w.heap.size n m c c2 d i z A A2 own v l w h2 h hhi hs (Nat.le_refl _) hap
  rw [if_neg h2]
  by_cases h3 : d = 3 ∨ d = 4 ∨ d = 5
  · rw [if_pos h3]
    rcases h3 with h3 | h3 | h3
    · exact does_do0 lo hi p w.heap.size n m c c2 d i z A A2 L M own v l w h3 ⟨hok.z.1, hf.2.2⟩ hL hM hf.1 hf.2.1 hok.ln hok.mn hT h0 h hhi hs (Nat.le_refl _) hap
    · exact does_do1 lo hi p w.heap.size n m c c2 d i z A A2 L M own v l w h3 ⟨hok.z.1, hf.2.2⟩ hL hM hf.1 hf.2.1 hok.ln hok.mn hT h0 h hhi hs (Nat.le_refl _) hap
    · exact does_do2 lo hi p w.heap.size n m c c2 d i z A A2 L M own v l w h3 ⟨hok.z.1, hf.2.2⟩ hL hM hf.1 hf.2.1 hok.ln hok.mn hT h0 h hhi hs (Nat.le_refl _) hap
  · rw [if_neg h3]
    exact does_none lo hi p w.heap.size n m c c2 d i z A A2 own v l w (by omega) h hhi hs (Nat.le_refl _) hap

/-- A set of one number. -/
theorem cnt_one (n i : Nat) : (List.range n).countP (fun j => decide (j = i)) = if i < n then 1 else 0 := by
  induction n with
  | zero => simp
  | succ n ih =>
    rw [List.range_succ, List.countP_append, ih]
    rcases Nat.lt_trichotomy i n with h | h | h
    · rw [if_pos h, if_pos (by omega)]; simp; omega
    · subst h; rw [if_neg (by omega), if_pos (by omega)]; simp
    · rw [if_neg (by omega), if_neg (by omega)]; simp; omega
theorem allB_one (n i : Nat) (h : i < n) : (allB (addB (List.replicate n false) (i : Int))).length = 1 := by
  have e : addB (List.replicate n false) (i : Int) = (List.replicate n false).set i true := by unfold addB; rw [if_pos (by simp; omega)]; simp
  rw [allB_count, e]
  have : (List.range ((List.replicate n false).set i true).length).countP (bt ((List.replicate n false).set i true)) = (List.range n).countP (fun j => decide (j = i)) := by
    rw [List.length_set, List.length_replicate]
    refine List.countP_congr fun j hj => ?_
    have hj := List.mem_range.1 hj
    rw [bt_lt (by simpa using hj)]
    simp only [List.getElem_set]
    by_cases e : i = j
    · subst e; simp
    · rw [if_neg e]; simp; omega
  rw [this, cnt_one, if_pos h]

/-- Between two acts: the set, the document's set in its box. -/
structure PlK (w W : World) (lo hi p b9 : Nat) (A : Option Addr) (c : Nat) (l : List Bool) : Prop where
  z : BZ W lo hi p l
  box : W.heap[b9]? = some (.cells #[.slice A l.length c] 33 (0, 0))
  d : DS W W.heap.size (.agg #[.slice A l.length c]) l
  ap : Ap lo hi (.agg #[.slice A l.length c])
  b : Below w.heap.size w W
  o : w.heap.size ≤ lo ∧ lo ≤ hi ∧ hi ≤ b9
section
variable {w W X : World} {lo hi p b9 c : Nat} {A : Option Addr} {l : List Bool}
theorem PlK.lt (h : PlK w W lo hi p b9 A c l) : b9 < W.heap.size := (Array.getElem?_eq_some_iff.1 h.box).1
theorem PlK.le (h : PlK w W lo hi p b9 A c l) : hi ≤ W.heap.size := by have := h.lt; have := h.o; omega
theorem PlK.len (h : PlK w W lo hi p b9 A c l) : l.length ≤ 65536 := by obtain ⟨_, _, _, _, _, h⟩ := h.d; exact h
theorem PlK.below (h : PlK w W lo hi p b9 A c l) (hb : Below W.heap.size W X) : PlK w X lo hi p b9 A c l :=
  ⟨h.z.below hb h.le, (hb.block _ h.lt).trans h.box, (h.d.below hb).more hb.size, h.ap, h.b.trans (hb.mono h.b.size), h.o⟩
theorem PlK.cell (h : PlK w W lo hi p b9 A c l) : W.cell? ⟨b9, 0, none⟩ = some (.slice A l.length c) := cell_of_row _ _ 0 _ _ _ h.box
end

/-- Behind the copy: it, and what the set was, in a box. -/
structure CpK (w W V : World) (loc hic pc b12 : Nat) (A : Option Addr) (c : Nat) (l : List Bool) : Prop where
  z : BZ V loc hic pc l
  box : V.heap[b12]? = some (.cells #[.slice A l.length c] 33 (0, 0))
  b : Below W.heap.size W V
  o : W.heap.size ≤ loc ∧ loc ≤ hic ∧ hic ≤ V.heap.size ∧ W.heap.size ≤ b12
/-- Behind the act: the set, the document's in a new box. -/
structure DoK8 (V U : World) (lo hi p b13 : Nat) (A2 : Option Addr) (c2 : Nat) (l2 : List Bool) : Prop where
  z : BZ U lo hi p l2
  box : U.heap[b13]? = some (.cells #[.slice A2 l2.length c2] 33 (0, 0))
  d : DS U U.heap.size (.agg #[.slice A2 l2.length c2]) l2
  ap : Ap lo hi (.agg #[.slice A2 l2.length c2])
  t : Turns (fun k => lo ≤ k ∧ k < hi) V U
  o : V.heap.size ≤ b13

section
variable {w wr ws X V U : World} {lo hi p b9 c loc hic pc b12 b13 c2 : Nat} {A A2 : Option Addr} {l l2 : List Bool}
theorem cp1 (hX : X.heap.size = wr.heap.size) (hzc : BZ ws X.heap.size ws.heap.size pc l) (hb' : Below X.heap.size X ws) (hb : Below wr.heap.size wr ws) :
    CpK w wr (ws.alloc (.cells #[.slice A l.length c] 33)) X.heap.size ws.heap.size pc ws.heap.size A c l :=
  ⟨hzc.below (below_new ws _) (Nat.le_refl _), heap_alloc_new ws _, hb.alloc hb.size _, by rw [hX]; exact ⟨Nat.le_refl _, hb.size, by simp, hb.size⟩⟩
theorem cp2 (hX : X.heap.size = wr.heap.size + 1) (hzc : BZ ws X.heap.size ws.heap.size pc l) (hb' : Below X.heap.size X ws) (hb : Below wr.heap.size wr ws) (bx : Bx ws wr.heap.size) :
    CpK w wr (ws.setCell ⟨wr.heap.size, 0, none⟩ (.slice A l.length c)) X.heap.size ws.heap.size pc wr.heap.size A c l :=
  ⟨hzc.turns (turns_setCell ws wr.heap.size 0 _) (fun k h1 h2 e => by omega), bx.row _ _ _, hb.setCell (p := ⟨wr.heap.size, 0, none⟩) (Nat.le_refl _) _, by have := hb'.size; have := (turns_setCell ws wr.heap.size 0 (.slice A l.length c)).size; omega⟩
theorem dk1 (hX : X.heap.size = V.heap.size) (ht : Turns (fun k => lo ≤ k ∧ k < hi) V ws) (hhi : hi ≤ V.heap.size) (hz : BZ ws lo hi p l2) (hd : DS ws ws.heap.size (.agg #[.slice A2 l2.length c2]) l2)
    (hap : Ap lo hi (.agg #[.slice A l.length c])) (hf : .agg #[.slice A2 l2.length c2] = Value.agg #[.slice A l.length c] ∨ Fr X.heap.size (.agg #[.slice A2 l2.length c2])) :
    DoK8 V (ws.alloc (.cells #[.slice A2 l2.length c2] 33)) lo hi p ws.heap.size A2 c2 l2 :=
  ⟨hz.below (below_new ws _) (Nat.le_trans hhi ht.size), heap_alloc_new ws _, hd.alloced _, by rcases hf with e | e; exact e ▸ hap; exact e.ap (by omega), ht.trans_ (turns_alloc _ ws _), ht.size⟩
theorem dk2 (hX : X.heap.size = V.heap.size + 1) (ht : Turns (fun k => lo ≤ k ∧ k < hi) V ws) (hhi : hi ≤ V.heap.size) (hz : BZ ws lo hi p l2) (hd : DS ws ws.heap.size (.agg #[.slice A2 l2.length c2]) l2)
    (hap : Ap lo hi (.agg #[.slice A l.length c])) (hf : .agg #[.slice A2 l2.length c2] = Value.agg #[.slice A l.length c] ∨ Fr X.heap.size (.agg #[.slice A2 l2.length c2])) (bx : Bx ws V.heap.size) :
    DoK8 V (ws.setCell ⟨V.heap.size, 0, none⟩ (.slice A2 l2.length c2)) lo hi p V.heap.size A2 c2 l2 :=
  ⟨hz.turns (turns_setCell ws V.heap.size 0 _) (fun k h1 h2 e => by omega), bx.row _ _ _, hd.boxed bx, by rcases hf with e | e; exact e ▸ hap; exact e.ap (by omega), ht.trans (turns_setCell ws V.heap.size 0 _) (fun k e => .inr (Nat.le_of_eq e.symm)), Nat.le_refl _⟩
/-- The box kept over an act, where it was made ahead of it. -/
theorem bx_turn (hhi : hi ≤ V.heap.size) (ht : Turns (fun k => lo ≤ k ∧ k < hi) (V.alloc (.cells #[.slice none 0 0] 33)).drew ws) : Bx ws V.heap.size :=
  (ht.block V.heap.size (by show _ < (V.alloc _).heap.size; simp) (by show ¬ (lo ≤ V.heap.size ∧ V.heap.size < hi); omega)).trans (Bx.new V)
theorem pl_store (hP : PlK w wr lo hi p b9 A c l) (hC : CpK w wr V loc hic pc b12 A c l) (hD : DoK8 V U lo hi p b13 A2 c2 l2) :
    PlK w (U.setCell ⟨b9, 0, none⟩ (.slice A2 l2.length c2)) lo hi p b9 A2 c2 l2 ∧ BZ (U.setCell ⟨b9, 0, none⟩ (.slice A2 l2.length c2)) loc hic pc l ∧ (U.setCell ⟨b9, 0, none⟩ (.slice A2 l2.length c2)).heap[b12]? = some (.cells #[.slice A l.length c] 33 (0, 0)) ∧
      DS (U.setCell ⟨b9, 0, none⟩ (.slice A2 l2.length c2)) (U.setCell ⟨b9, 0, none⟩ (.slice A2 l2.length c2)).heap.size (.agg #[.slice A l.length c]) l ∧ hic ≤ (U.setCell ⟨b9, 0, none⟩ (.slice A2 l2.length c2)).heap.size ∧
      U.cell? ⟨b9, 0, none⟩ = some (.slice A l.length c) ∧ U.frozen? ⟨b9, 0, none⟩ = false := by
  have h1 := hP.lt
  have h2 := hP.le
  have h3 := hP.o
  have h4 := hC.o
  have h5 := hC.b.size
  have h6 := hD.t.size
  have hPV := hP.below hC.b
  have hb9 : U.heap[b9]? = some (.cells #[.slice A l.length c] 33 (0, 0)) := (hD.t.block b9 (by omega) (by show ¬ (lo ≤ b9 ∧ b9 < hi); omega)).trans hPV.box
  have hl12 := (Array.getElem?_eq_some_iff.1 hC.box).1
  have ts := turns_setCell U b9 0 (.slice A2 l2.length c2)
  have hdV := hPV.d.turns (Nat.le_refl _) hP.ap hD.t
  refine ⟨⟨hD.z.turns ts (fun k a b e => by omega), by rw [heap_setCell_same U b9 0 _ _ _ hb9]; rfl, (hD.d.setBox hb9).more ts.size, hD.ap, (hPV.b.trans (hD.t.below hPV.b.size (fun k e => by omega))).setCell (p := ⟨b9, 0, none⟩) (by show w.heap.size ≤ b9; omega) _, h3⟩, (hC.z.turns hD.t (fun k a b e => by omega)).turns ts (fun k a b e => by omega), (heap_setCell_other _ _ _ _ (by show b12 ≠ b9; omega)).trans ((hD.t.block b12 (by omega) (by show ¬ (lo ≤ b12 ∧ b12 < hi); omega)).trans hC.box), (hdV.setBox hb9).more (Nat.le_trans h6 ts.size), Nat.le_trans (by omega) ts.size, cell_of_row _ _ 0 _ _ _ hb9, frozen_of_row _ _ 0 _ _ hb9⟩
end

end Go.Proofs.YtiembenkdldklaaDoor

namespace Go.Proofs.YtiembenkdldklaaDoor
open Go Go.RowKit
set_option linter.unusedVariables false

set_option maxRecDepth 100000 in
set_option maxHeartbeats 8000000 in
theorem bplays_any (nk ck na ca : Nat) (Ak Aa : Option Addr) (n : Int) (ks : List Int) (acs : List AcV) (w : World) (hT : BTab w) (hr : Rd w w.heap.size 1 Ak nk (iz ks)) (ha : Rd w w.heap.size 6 Aa na (acCells acs)) (hok : ∀ (i : Nat) (a : AcV), acs[i]? = some a → AcOK w w.heap.size a) (hca : na ≤ ca ∧ ca ≤ 9223372036854775807) :
    Calls Tryd.prog 3 #[.int .i64 n, .slice Ak nk ck, .slice Aa na ca] w fun e w' => e = .returned (.bool true) ∧ Below w.heap.size w w' := by
  have HWO := Lib_hid (fun (W : World) (hW : Below w.heap.size w W) => works_any W (hT.below hW hT.1))
  have FW := Lib_hid (fun (W : World) (hW : Below w.heap.size w W) => few8_any w.heap.size na ca Aa acs W (ha.below hW) (by omega))
  by_cases hn : 400 < n ∧ n ≤ 65536
  · have d1 : decide ((400 : Int) < n) = true := decide_eq_true hn.1
    have d2 : decide (n ≤ (65536 : Int)) = true := decide_eq_true hn.2
    clear hr ha hok
    go_enter Tryd.func3, Tryd.ntmps3
    go_wp2_with fail
    refine (HWO.out w (Below.refl _ _)).mono ?_
    rintro e w1 ⟨rfl, hb⟩
    go_wp2
    go_ret
    exact ⟨rfl, hb⟩
  by_cases hk : 40 < nk
  · have d1 : (decide ((400 : Int) < n) = true ∧ decide (n ≤ (65536 : Int)) = false) ∨ decide ((400 : Int) < n) = false := by
      by_cases h4 : 400 < n
      · exact .inl ⟨decide_eq_true h4, decide_eq_false (by omega)⟩
      · exact .inr (decide_eq_false h4)
    have d3 : decide ((40 : Int) < (nk : Int)) = true := decide_eq_true (by omega)
    clear hr ha hok hn
    rcases d1 with ⟨d1, d2⟩ | d1
    all_goals
      go_enter Tryd.func3, Tryd.ntmps3
      go_wp2_with fail
      refine (HWO.out w (Below.refl _ _)).mono ?_
      rintro e w1 ⟨rfl, hb⟩
      go_wp2
      go_ret
      exact ⟨rfl, hb⟩
  have d3 : decide ((40 : Int) < (nk : Int)) = false := decide_eq_false (by omega)
  by_cases h6 : 65536 < n
  · have d1 : decide ((400 : Int) < n) = true := decide_eq_true (by omega)
    have d2 : decide (n ≤ (65536 : Int)) = false := decide_eq_false (by omega)
    have d6 : decide ((65536 : Int) < n) = true := decide_eq_true h6
    have hc6 : clampN n = 65536 := by unfold clampN; omega
    have PN := Lib_hid (fun (W : World) => hc6 ▸ pnew_any n W)
    obtain ⟨l0, hl0⟩ : ∃ l0 : List Bool, l0 = List.replicate 65536 false := ⟨_, rfl⟩
    rw [← hl0] at PN
    have SZ : Hid (∀ (lo hi p : Nat) (X : World), BZ X lo hi p l0 → Calls Tryd.prog 11 #[pv p] X fun e w' => e = .returned (.int .i64 65536) ∧ w' = X) := fun lo hi p X h => by
      have := psize_any lo hi p l0 X h
      rw [show (l0.length : Int) = 65536 by rw [hl0, List.length_replicate]; rfl] at this
      exact this
    have e1 : newB l0 65535 = true := by
      rw [hl0]; unfold newB inB hasB
      rw [List.length_replicate, show bt (List.replicate 65536 false) (65535 : Int).toNat = false by rw [show (65535 : Int).toNat = 65535 from rfl, bt_lt (by rw [List.length_replicate]; decide), List.getElem_replicate]]
      decide
    have e2 : (allB (addB l0 65535)).length = 1 := by rw [hl0]; exact allB_one 65536 65535 (by decide)
    have e4 : (addB l0 65535).length = 65536 := by rw [hl0, addB_len, List.length_replicate]
    have e3 : newB (addB l0 65535) 65536 = false := by
      have h : inB 65536 65536 = false := by decide
      unfold newB
      rw [e4, h]
      rfl
    have e5 : addB (addB l0 65535) 65536 = addB l0 65535 := by
      have : ∀ m : List Bool, m.length = 65536 → addB m 65536 = m := fun m hm => by unfold addB; rw [if_neg (by rw [hm]; decide)]
      exact this _ e4
    have A1 : Hid (∀ (lo hi p : Nat) (X : World), BZ X lo hi p l0 → Calls Tryd.prog 12 #[pv p, .int .i64 65535] X (PSt lo hi p (addB l0 65535) true X)) := fun lo hi p X h => e1 ▸ padd_any lo hi p l0 65535 X h
    have A2 : Hid (∀ (lo hi p : Nat) (X : World), BZ X lo hi p (addB l0 65535) → Calls Tryd.prog 12 #[pv p, .int .i64 65536] X (PSt lo hi p (addB l0 65535) false X)) := fun lo hi p X h => by
      have := padd_any lo hi p (addB l0 65535) 65536 X h
      rw [e3, e5] at this
      exact this
    have LE : Hid (∀ (lo hi p : Nat) (X : World), BZ X lo hi p (addB l0 65535) → Calls Tryd.prog 13 #[pv p] X fun e w' => e = .returned (.int .i64 1) ∧ Below X.heap.size X w') := fun lo hi p X h => by
      have := plen_any lo hi p (addB l0 65535) X h
      rw [e2] at this
      exact this
    generalize addB l0 65535 = l1 at *
    clear e1 e2 e3 e4 e5 hl0 hr ha hok hn
    go_enter Tryd.func3, Tryd.ntmps3
    go_wp2_with fail
    refine (FW.out w (Below.refl _ _)).mono ?_
    rintro e w1 ⟨b, rfl, rfl, -⟩
    cases b with
    | false =>
      go_wp2_with fail
      refine (HWO.out w (Below.refl _ _)).mono ?_
      rintro e w1 ⟨rfl, hb⟩
      go_wp2
      go_ret
      exact ⟨rfl, hb⟩
    | true =>
      go_wp2_with fail
      refine (PN.out w).mono ?_
      rintro e w1 ⟨p, rfl, hz, hb⟩
      have HZ := Lib_hid hz
      have HB := Lib_hid hb
      clear hz hb
      go_wp2_with fail
      refine (SZ.out _ _ _ w1 HZ.out).mono ?_
      rintro e w2 ⟨rfl, rfl⟩
      go_wp2_with fail
      refine (A1.out _ _ _ w2 HZ.out).mono ?_
      rintro e w3 ⟨rfl, hz, ht⟩
      have HB3 := Lib_hid (HB.out.trans (ht.below HB.out.size (fun k e => e.1)))
      have HZ3 := Lib_hid hz
      clear hz ht
      go_wp2_with fail
      refine (A2.out _ _ _ w3 HZ3.out).mono ?_
      rintro e w4 ⟨rfl, hz, ht⟩
      have HB4 := Lib_hid (HB3.out.trans (ht.below HB3.out.size (fun k e => e.1)))
      have HZ4 := Lib_hid hz
      clear hz ht
      go_wp2_with fail
      refine (LE.out _ _ _ w4 HZ4.out).mono ?_
      rintro e w5 ⟨rfl, hb⟩
      have HB5 := Lib_hid (HB4.out.trans (hb.mono HB4.out.size))
      clear hb
      go_wp2_with fail
      refine (HWO.out w5 HB5.out).mono ?_
      rintro e w6 ⟨rfl, hb⟩
      have hfin := HB5.out.trans (hb.mono HB5.out.size)
      go_wp2
      go_ret
      exact ⟨rfl, hfin⟩
  have d1 : decide ((400 : Int) < n) = false := decide_eq_false (by omega)
  have d6 : decide ((65536 : Int) < n) = false := decide_eq_false (by omega)
  obtain ⟨la, hla⟩ : ∃ l, l = ofB (clampN n) ks := ⟨_, rfl⟩
  have PA := Lib_hid (fun (W : World) (hW : Below w.heap.size w W) => hla ▸ pof_any w.heap.size nk ck n Ak ks W (hr.below hW) hW.size (by omega))
  have DA := Lib_hid (fun (W : World) (hW : Below w.heap.size w W) => hla ▸ dof_new w.heap.size nk ck n Ak ks W (hr.below hW) hW.size (by omega))
  have PN := Lib_hid (fun (W : World) => pnew_any n W)
  have DN := Lib_hid (fun (W : World) => dnew_any n W)
  have HRA := Lib_hid ha
  have HOK := Lib_hid hok
  have hal : acs.length = na := by have := ha.len; rw [acCells_length] at this; omega
  have HAL := Lib_hid hal
  have HT := Lib_hid hT
  clear hr ha hok hla hal hT hn hk
  go_enter Tryd.func3, Tryd.ntmps3
  go_wp2_with fail
  refine (FW.out w (Below.refl _ _)).mono ?_
  rintro e w1 ⟨b, rfl, rfl, hfew⟩
  cases b with
  | false =>
    go_wp2_with fail
    refine (HWO.out w (Below.refl _ _)).mono ?_
    rintro e w1 ⟨rfl, hb⟩
    go_wp2
    go_ret
    exact ⟨rfl, hb⟩
  | true =>
    obtain ⟨hna, hfew⟩ := hfew rfl
    have HFEW := Lib_hid hfew
    clear hfew FW
    go_wp2_with fail
    refine (PA.out w (Below.refl _ _)).mono ?_
    rintro e w1 ⟨p, rfl, hz, hb⟩
    have HZ := Lib_hid hz
    have HB := Lib_hid hb
    clear hz hb
    go_wp2_with fail
    refine (DA.out w1 HB.out).mono ?_
    rintro e w2 ⟨v, rfl, ⟨⟨A, c, rfl, hd⟩, hf⟩, hb⟩
    have hbx := below_new w2 (.cells #[.slice A la.length c] 33)
    have hs2 := hb.size
    have hs1 := HB.out.size
    have hp0 : PlK w (w2.alloc (.cells #[.slice A la.length c] 33)) w.heap.size w1.heap.size p w2.heap.size A c la :=
      ⟨(HZ.out.below hb (Nat.le_refl _)).below hbx hs2, heap_alloc_new _ _, ((show DS w2 w2.heap.size (.agg #[.slice A la.length c]) la from ⟨A, c, rfl, hd⟩).below hbx).more hbx.size, hf.ap (Nat.le_refl _), (HB.out.trans (hb.mono hs1)).trans (hbx.mono (by omega)), Nat.le_refl _, hs1, hs2⟩
    have HP0 := Lib_hid hp0
    have hlo : w.heap.size = w.heap.size := rfl
    clear hd hf hb hbx hp0 HZ PA DA
    go_upto_region 7 with (fail)
    generalize w2.alloc (.cells #[.slice A la.length c] 33) = w3 at *
    generalize w2.heap.size = b9 at *
    generalize w1.heap.size = hi at *
    clear hs2 hs1 HB
    go_wp2
    go_loopw [10] (fun z wr => ∃ (i : Nat) (A : Option Addr) (c : Nat) (l : List Bool), z = .int .i64 i ∧ i ≤ na ∧ Hid (PlK w wr w.heap.size hi p b9 A c l)) (fun z _ => na - (intOf z).toNat)
    case atStart => exact ⟨0, A, c, la, rfl, Nat.zero_le _, HP0⟩
    case round =>
      clear HP0 hlo
      obtain ⟨i, A, c, l, rfl, hin, hP⟩ := hrel
      by_cases hlt : i < na
      · have HB9 : Hid (∀ X, Below wr.heap.size wr X → X.cell? ⟨b9, 0, none⟩ = some (.slice A l.length c)) := fun X hX => (hP.out.below hX).cell
        have CP : Hid (∀ X, Below wr.heap.size wr X → Calls Tryd.prog 16 #[pv p] X (NEnd l X)) := fun X hX => pcopy_any _ _ p l X (hP.out.below hX).z
        obtain ⟨ab, off, a, hAa, hab, ha, m0, m1, m2, m3, m4, m5⟩ := ac_at HRA.out HAL.out hlt
        subst hAa
        have HAC : Hid (∀ X, Below w.heap.size w X → X.cell? ⟨ab, off + i * 6, none⟩ = some (.int .i64 a.d) ∧ X.cell? ⟨ab, off + i * 6 + 1, none⟩ = some (.int .i64 a.i) ∧ X.cell? ⟨ab, off + i * 6 + 2, none⟩ = some (.int .i64 a.z) ∧ X.cell? ⟨ab, off + i * 6 + 3, none⟩ = some (.slice a.A a.n a.c) ∧ X.cell? ⟨ab, off + i * 6 + 4, none⟩ = some (.slice a.A2 a.m a.c2) ∧ X.cell? ⟨ab, off + i * 6 + 5, none⟩ = some (.bool a.own)) := fun X hX =>
          ⟨(hX.cell hab).trans m0, (hX.cell hab).trans m1, (hX.cell hab).trans m2, (hX.cell hab).trans m3, (hX.cell hab).trans m4, (hX.cell hab).trans m5⟩
        have HA := Lib_hid ha
        clear m0 m1 m2 m3 m4 m5 ha
        go_upto_region 10 with (fail)
        go_cut [11, 12] from 68 to 70 (fun x y V => ∃ (pc loc hic b12 : Nat), x = pv pc ∧ y = .pointer (some ⟨b12, 0, none⟩) ∧ Hid (CpK w wr V loc hic pc b12 A c l))
        case first =>
          go_region_held3 (fun X => X.cell? ⟨b9, 0, none⟩ = some (.slice A l.length c))
            (exact HB9.out _ (by (repeat' (first | exact below_d1 _ | exact hbs | exact Below.refl _ _ | refine below_dr ?_ | refine Below.alloc ?_ ?_ _ | refine Below.setCell ?_ ?_ _ | refine Below.size (B := wr.heap.size) ?_ | (have hs1 := hbs.size; simp <;> omega) | (simp <;> omega)))))
            ((go_at_call 16; (with_reducible refine (CP.out _ (by (repeat' (first | exact below_d1 _ | exact hbs | exact Below.refl _ _ | refine below_dr ?_ | refine Below.alloc ?_ ?_ _ | refine Below.setCell ?_ ?_ _ | refine Below.size (B := wr.heap.size) ?_ | (have hs1 := hbs.size; simp <;> omega) | (simp <;> omega))))).mono ?_); rintro e ws ⟨pc, rfl, hzc, hbs'⟩; have hbs : Below wr.heap.size wr ws := Below.trans (by (repeat' (first | exact below_d1 _ | exact Below.refl _ _ | refine below_dr ?_ | refine Below.alloc ?_ ?_ _ | refine Below.setCell ?_ ?_ _ | refine Below.size (B := wr.heap.size) ?_ | (simp <;> omega)))) (hbs'.mono (Below.size (B := wr.heap.size) (by (repeat' (first | exact below_d1 _ | exact Below.refl _ _ | refine below_dr ?_ | refine Below.alloc ?_ ?_ _ | refine Below.setCell ?_ ?_ _ | refine Below.size (B := wr.heap.size) ?_ | (simp <;> omega)))))); (first | (have bx : Bx ws wr.heap.size := one_kept (V := wr) ⟨hbs'.os, hbs'.tape, hbs'.output, hbs'.size, hbs'.block⟩; have q1 := cell_of_row _ _ 0 _ _ _ bx; have q2 := frozen_of_row _ _ 0 _ _ bx) | skip)))
          all_goals
            try go_step
            try go_step
            go_meet
            first
            | exact ⟨pc, _, _, _, rfl, rfl, Lib_hid (cp1 (X := wr.drew) rfl hzc hbs' hbs)⟩
            | exact ⟨pc, _, _, _, rfl, rfl, Lib_hid (cp2 (by simp) hzc hbs' hbs bx)⟩
        case rest =>
          obtain ⟨pc, loc, hic, b12, rfl, rfl, hC⟩ := hcut
          obtain ⟨V, rfl⟩ : ∃ V, V = wc := ⟨_, rfl⟩
          have hPV := hP.out.below hC.out.b
          have hbV := hPV.b
          have hhV := hPV.le
          have hsV := hbV.size
          have hFW := HFEW.out i a hlt HA.out
          have hb9V := hPV.lt
          have ho9 := hPV.o
          have DO : Hid (∀ X, Below V.heap.size V X → Calls Tryd.prog 17 #[pv p, .agg #[.slice A l.length c], .agg #[.int .i64 a.d, .int .i64 a.i, .int .i64 a.z, .slice a.A a.n a.c, .slice a.A2 a.m a.c2, .bool a.own]] X (DoesEnd w.heap.size hi p (.agg #[.slice A l.length c]) (a.act l) X)) := fun X hX => by
            have hPX := hPV.below hX
            exact does_any w.heap.size hi p w.heap.size a _ l X ((HOK.out i a HA.out).below hPX.b) hFW (HT.out.below hPX.b HT.out.1) HT.out.1 hPX.z hPX.le hPX.d hPX.b.size hPX.ap
          have KS : Hid (∀ X, Turns (fun k => w.heap.size ≤ k ∧ k < hi) V X → X.cell? ⟨b9, 0, none⟩ = some (.slice A l.length c) ∧ X.cell? ⟨ab, off + i * 6, none⟩ = some (.int .i64 a.d) ∧ X.cell? ⟨ab, off + i * 6 + 1, none⟩ = some (.int .i64 a.i) ∧ X.cell? ⟨ab, off + i * 6 + 2, none⟩ = some (.int .i64 a.z) ∧ X.cell? ⟨ab, off + i * 6 + 3, none⟩ = some (.slice a.A a.n a.c) ∧ X.cell? ⟨ab, off + i * 6 + 4, none⟩ = some (.slice a.A2 a.m a.c2) ∧ X.cell? ⟨ab, off + i * 6 + 5, none⟩ = some (.bool a.own)) := fun X hX =>
            ⟨(hX.cell (p := ⟨b9, 0, none⟩) hb9V (by show ¬ (w.heap.size ≤ b9 ∧ b9 < hi); omega)).trans hPV.cell, HAC.out X (hbV.trans (hX.below hsV (fun k e => e.1)))⟩
          have HPV := Lib_hid hPV
          have hap := Lib_hid hPV.ap
          clear hPV hFW HAC
          go_upto_region 11 with (fail)
          go_cut [13, 14] from 71 to 80 (fun x y U => ∃ (A2 : Option Addr) (c2 b13 : Nat), x = .pointer (some ⟨b13, 0, none⟩) ∧ y = .bool true ∧ Hid (DoK8 V U w.heap.size hi p b13 A2 c2 (a.act l)))
          case first =>
            go_region_held3 (fun X => X.cell? ⟨b9, 0, none⟩ = some (.slice A l.length c) ∧ X.cell? ⟨ab, off + i * 6, none⟩ = some (.int .i64 a.d) ∧ X.cell? ⟨ab, off + i * 6 + 1, none⟩ = some (.int .i64 a.i) ∧ X.cell? ⟨ab, off + i * 6 + 2, none⟩ = some (.int .i64 a.z) ∧ X.cell? ⟨ab, off + i * 6 + 3, none⟩ = some (.slice a.A a.n a.c) ∧ X.cell? ⟨ab, off + i * 6 + 4, none⟩ = some (.slice a.A2 a.m a.c2) ∧ X.cell? ⟨ab, off + i * 6 + 5, none⟩ = some (.bool a.own))
              (first | exact KS.out _ (Turns.of_below (below_d1 _)) | exact KS.out _ (Turns.of_below (below_dr (below_new V _))) | exact KS.out _ ht | exact KS.out _ (ht.trans_ (turns_alloc _ _ _)) | exact KS.out _ (ht.trans (turns_setCell _ V.heap.size 0 _) (fun k e => .inr (Nat.le_of_eq e.symm))))
              ((go_at_call 17; first
                | ((with_reducible refine (DO.out _ (by exact below_d1 _)).mono ?_); rintro e ws ⟨A2, c2, rfl, ⟨hd2, hf2⟩, hz2, ht2⟩; have ht : Turns (fun k => w.heap.size ≤ k ∧ k < hi) V ws := (Turns.of_below (below_d1 V)).trans_ ht2)
                | ((with_reducible refine (DO.out _ (by exact below_dr (below_new V _))).mono ?_); rintro e ws ⟨A2, c2, rfl, ⟨hd2, hf2⟩, hz2, ht2⟩; have ht : Turns (fun k => w.heap.size ≤ k ∧ k < hi) V ws := (Turns.of_below (below_dr (below_new V _))).trans_ ht2; have bx : Bx ws V.heap.size := bx_turn hhV ht2; have q1 := cell_of_row _ _ 0 _ _ _ bx; have q2 := frozen_of_row _ _ 0 _ _ bx)))
            all_goals
              try go_step
              try go_step
              go_meet
              first
              | exact ⟨A2, c2, _, rfl, rfl, Lib_hid (dk1 (X := V.drew) rfl ht hhV hz2 hd2 hap.out hf2)⟩
              | exact ⟨A2, c2, _, rfl, rfl, Lib_hid (dk2 (by show (V.alloc _).heap.size = _; simp) ht hhV hz2 hd2 hap.out hf2 bx)⟩
          case rest =>
            obtain ⟨A2, c2, b13, rfl, rfl, hD⟩ := hcut
            obtain ⟨U, rfl⟩ : ∃ U, U = wc := ⟨_, rfl⟩
            obtain ⟨s1, s2, s3, s4, s5, s6, s7⟩ := pl_store hP.out hC.out hD.out
            have S := Lib_hid (And.intro s1 (And.intro s2 (And.intro s3 (And.intro s4 s5))))
            have s13 := cell_of_row _ _ 0 _ _ _ hD.out.box
            clear s1 s2 s3 s4 s5 DO KS HPV hP hC
            go_upto_region 13 with (fail)
            have hl2 := S.out.1.len
            generalize hl2e : a.act l = l2 at *
            clear hl2e
            generalize hU : U.setCell ⟨b9, 0, none⟩ (.slice A2 l2.length c2) = U9 at *
            clear hU s6 s7 s13
            have hsU := S.out.1.le
            have hbU := S.out.1.b
            have I1 : Hid (∀ X, Below U9.heap.size U9 X → Calls Tryd.prog 18 #[pv p, .agg #[.slice A2 l2.length c2]] X fun e w' => e = .returned (.bool true) ∧ Below X.heap.size X w') := fun X hX => by
              have hPX := S.out.1.below hX
              exact is_any _ hi p X.heap.size l2 _ X (HT.out.below hPX.b HT.out.1) hPX.z hPX.le hPX.d (Nat.le_refl _) hPX.len
            have I2 : Hid (∀ X, Below U9.heap.size U9 X → Calls Tryd.prog 18 #[pv pc, .agg #[.slice A l.length c]] X fun e w' => e = .returned (.bool true) ∧ Below X.heap.size X w') := fun X hX => by
              have hd := (S.out.2.2.2.1.below hX).more hX.size
              exact is_any loc hic pc X.heap.size l _ X (HT.out.below (hbU.trans (hX.mono hbU.size)) HT.out.1) (S.out.2.1.below hX S.out.2.2.2.2) (Nat.le_trans S.out.2.2.2.2 hX.size) hd (Nat.le_refl _) (by obtain ⟨_, _, _, _, _, h⟩ := hd; exact h)
            have I3 : Hid (∀ X, Below U9.heap.size U9 X → Calls Tryd.prog 19 #[pv p, pv pc] X fun e w' => e = .returned (.bool (sameB l2 l)) ∧ Below X.heap.size X w') := fun X hX => by
              have hPX := S.out.1.below hX
              exact psame_any _ _ l2 l X (.inr ⟨p, _, hi, rfl, hPX.z, hPX.le⟩) (.inr ⟨pc, loc, hic, rfl, S.out.2.1.below hX S.out.2.2.2.2, Nat.le_trans S.out.2.2.2.2 hX.size⟩)
            have I4 : Hid (∀ X, Below U9.heap.size U9 X → Calls Tryd.prog 20 #[.agg #[.slice A2 l2.length c2], .agg #[.slice A l.length c]] X fun e w' => e = .returned (.bool (sameB l2 l)) ∧ Below X.heap.size X w') := fun X hX => by
              have hPX := S.out.1.below hX
              exact dsame_any _ _ _ _ l2 l X hPX.d ((S.out.2.2.2.1.below hX).more hX.size) (Nat.le_refl _) (Nat.le_refl _)
            have KC : Hid (∀ X, Below U9.heap.size U9 X → X.cell? ⟨b9, 0, none⟩ = some (.slice A2 l2.length c2) ∧ X.cell? ⟨b12, 0, none⟩ = some (.slice A l.length c)) := fun X hX =>
              ⟨(S.out.1.below hX).cell, cell_of_row _ _ 0 _ _ _ ((hX.block b12 (Array.getElem?_eq_some_iff.1 S.out.2.2.1).1).trans S.out.2.2.1)⟩
            generalize sameB l2 l = sb at *
            clear hsU hbU hl2
            go_region_held3 (fun X => X.cell? ⟨b9, 0, none⟩ = some (.slice A2 l2.length c2) ∧ X.cell? ⟨b12, 0, none⟩ = some (.slice A l.length c))
              (first | exact KC.out _ (below_d1 _) | exact KC.out _ hbs)
              ((first
                | (go_at_call 18; first
                  | ((with_reducible refine (I1.out _ (by exact below_d1 _)).mono ?_); rintro e ws ⟨rfl, hbs'⟩; have hbs : Below U9.heap.size U9 ws := ⟨hbs'.os, hbs'.tape, hbs'.output, hbs'.size, hbs'.block⟩)
                  | ((with_reducible refine (I2.out _ (by exact hbs)).mono ?_); rintro e ws ⟨rfl, hbs'⟩; replace hbs := hbs.trans (hbs'.mono hbs.size)))
                | (go_at_call 19; (with_reducible refine (I3.out _ (by exact hbs)).mono ?_); rintro e ws ⟨rfl, hbs'⟩; replace hbs := hbs.trans (hbs'.mono hbs.size))
                | (go_at_call 20; (with_reducible refine (I4.out _ (by exact hbs)).mono ?_); rintro e ws ⟨rfl, hbs'⟩; replace hbs := hbs.trans (hbs'.mono hbs.size))))
            all_goals
              have hPn := Lib_hid (S.out.1.below hbs)
              have hsb : (sb != sb) = false := by cases sb <;> rfl
              clear S I1 I2 I3 I4 KC hbs hbs'
              go_wp2
              go_roundw
              case rel => exact ⟨i + 1, A2, c2, l2, by go_num, by omega, hPn⟩
              case measure => simp [intOf]; omega
      · obtain rfl : i = na := by omega
        have hP1 := hP.out
        have q9 := hP1.cell
        have I1 : Hid (∀ X, Below wr.heap.size wr X → Calls Tryd.prog 18 #[pv p, .agg #[.slice A l.length c]] X fun e w' => e = .returned (.bool true) ∧ Below X.heap.size X w') := fun X hX => by
          have hPX := hP.out.below hX
          exact is_any _ hi p X.heap.size l _ X (HT.out.below hPX.b HT.out.1) hPX.z hPX.le hPX.d (Nat.le_refl _) hPX.len
        have HBw := Lib_hid hP1.b
        clear hP1 hP
        go_wp2_with fail
        refine (I1.out wr (Below.refl _ _)).mono ?_
        rintro e v1 ⟨rfl, hb⟩
        have HB1 := Lib_hid (HBw.out.trans (hb.mono HBw.out.size))
        clear hb q9
        go_wp2_with fail
        refine (PN.out v1).mono ?_
        rintro e v2 ⟨r, rfl, hz, hb⟩
        have HZ2 := Lib_hid hz
        have HB2 := Lib_hid (HB1.out.trans (hb.mono HB1.out.size))
        clear hz hb
        go_wp2_with fail
        refine (DN.out v2).mono ?_
        intro e v3 hN
        obtain ⟨v, rfl, hd, hb⟩ := hN.ds (by rw [List.length_replicate]; exact clampN_le _)
        obtain ⟨A3, c3, rfl, hd3⟩ := hd
        have HI := Lib_hid (is_any _ _ r v3.heap.size _ _ v3 (HT.out.below (HB2.out.trans (hb.mono HB2.out.size)) HT.out.1) (HZ2.out.below hb (Nat.le_refl _)) hb.size (show DS v3 v3.heap.size (.agg #[.slice A3 _ c3]) _ from ⟨A3, c3, rfl, hd3⟩) (Nat.le_refl _) (by rw [List.length_replicate]; exact clampN_le _))
        have HB3 := Lib_hid (HB2.out.trans (hb.mono HB2.out.size))
        clear hb hd3 hN
        generalize (List.replicate (clampN n) false).length = m3 at *
        go_wp2_with fail
        refine HI.out.mono ?_
        rintro e v4 ⟨rfl, hb⟩
        have HB4 := Lib_hid (HB3.out.trans (hb.mono HB3.out.size))
        clear hb HI
        go_wp2_with fail
        refine (HWO.out v4 HB4.out).mono ?_
        rintro e v5 ⟨rfl, hb⟩
        have hfin := HB4.out.trans (hb.mono HB4.out.size)
        go_wp2
        go_ret
        exact ⟨rfl, hfin⟩

end Go.Proofs.YtiembenkdldklaaDoor
