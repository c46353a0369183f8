/-
  Layer 8: the statements' does: an act on a set, and on the document's.
-/
import Derived.Test.YtiembenkdldklaaDoorYac
import Derived.Deep.DeepCutAuto
import Derived.Deep.CutBlock
namespace Go.Proofs.YtiembenkdldklaaDoor
open Go Go.RowKit
set_option linter.unusedVariables false

theorem below_as {B : Nat} {a b b' : World} (h : Below B a b) (e1 : b'.os = b.os) (e2 : b'.tape = b.tape) (e3 : b'.output = b.output) (e4 : b'.heap = b.heap) : Below B a b' :=
  ⟨e1.trans h.os, e2.trans h.tape, e3.trans h.output, by rw [e4]; exact h.size, fun i hi => by rw [e4]; exact h.block i hi⟩

/-- A set of the document's lies outside some blocks. -/
def Ap (lo hi : Nat) (v : Value) : Prop := ∀ A n c, v = .agg #[.slice A n c] → ∀ k, ob A = some k → k < lo ∨ hi ≤ k
theorem Fr.ap {B lo hi : Nat} {v : Value} (h : Fr B v) (hh : hi ≤ B) : Ap lo hi v := fun A n c e k hk => .inr (Nat.le_trans hh (h A n c e k hk))
/-- It stays, whatever is written in those blocks. -/
theorem DS.turns {w X : World} {B lo hi : Nat} {v : Value} {l : List Bool} (h : DS w B v l) (hB : B ≤ w.heap.size) (ha : Ap lo hi v) (t : Turns (fun k => lo ≤ k ∧ k < hi) w X) : DS X B v l := by
  obtain ⟨A, c, rfl, hr, hc⟩ := h
  refine ⟨A, c, rfl, ⟨hr.len, fun h0 => ?_⟩, hc⟩
  obtain ⟨ad, e1, hb, hcell⟩ := hr.lies h0
  refine ⟨ad, e1, hb, fun j y hy => ?_⟩
  have hq := ha A _ _ rfl ad.block (by rw [e1]; rfl)
  rw [← hcell j y hy]
  exact t.cell (by rw [add_block]; omega) (by rw [add_block]; omega)

/-- What an act makes of a set. -/
def actB (d i z : Int) (L M : List Int) (own : Bool) (l : List Bool) : List Bool :=
  if d = 0 ∨ d = 1 then addB l i else if d = 2 then remB l i else
  if d = 3 ∨ d = 4 ∨ d = 5 then doB (d - 3).toNat l [ofB (clampN z) L, if own then l else ofB (clampN (z + 9)) M] else l

/-- How does ends. -/
def DoesEnd (lo hi p : Nat) (v : Value) (l' : List Bool) (w : World) (e : Ending) (w' : World) : Prop :=
  ∃ A c, e = .returned (.tuple #[.agg #[.slice A l'.length c], .bool true]) ∧ (DS w' w'.heap.size (.agg #[.slice A l'.length c]) l' ∧ (.agg #[.slice A l'.length c] = v ∨ Fr w.heap.size (.agg #[.slice A l'.length c]))) ∧ BZ w' lo hi p l' ∧ Turns (fun k => lo ≤ k ∧ k < hi) w w'

/-- The three blocks of does: the set, the act, the set to be told. -/
theorem three_blocks (w : World) (v : Value) (cs : Array Value) (T T2 : TypeId) : ∃ W, W = ((w.alloc (.cells #[v] T)).alloc (.cells cs T2)).alloc (.cells #[.slice none 0 0] T) ∧ W.heap.size = w.heap.size + 3 ∧ Below w.heap.size w W ∧
    W.heap[w.heap.size]? = some (.cells #[v] T (0, 0)) ∧ W.heap[w.heap.size + 1]? = some (.cells cs T2 (0, 0)) ∧ W.heap[w.heap.size + 2]? = some (.cells #[.slice none 0 0] T (0, 0)) := by
  have hb0 := below_new w (.cells #[v] T)
  have hb1 := hb0.alloc hb0.size (.cells cs T2)
  refine ⟨_, rfl, by simp, hb1.alloc hb1.size _, (heap_alloc_old _ _ (by simp <;> omega)).trans ((heap_alloc_old _ _ (by simp)).trans (heap_alloc_new w _)), ?_, ?_⟩
  · refine (heap_alloc_old _ _ (by simp)).trans ?_
    have := heap_alloc_new (w.alloc (.cells #[v] T)) (.cells cs T2)
    rwa [World.size_alloc] at this
  · have := heap_alloc_new ((w.alloc (.cells #[v] T)).alloc (.cells cs T2)) (.cells #[.slice none 0 0] T)
    rwa [World.size_alloc, World.size_alloc] at this

/-- Behind the last store of does. -/
theorem mid_end {w W3 X : World} {lo hi p c1 : Nat} {A1 : Option Addr} {v : Value} {l' : List Bool} (hb3 : Below w.heap.size w W3) (hhi : hi ≤ w.heap.size)
    (y2 : W3.heap[w.heap.size + 2]? = some (.cells #[.slice none 0 0] 33 (0, 0))) (hds : DS W3 W3.heap.size (.agg #[.slice A1 l'.length c1]) l') (hap : Ap lo hi v)
    (hf : .agg #[.slice A1 l'.length c1] = v ∨ Fr w.heap.size (.agg #[.slice A1 l'.length c1])) (t : Turns (fun k => lo ≤ k ∧ k < hi) W3 X) (hz : BZ X lo hi p l') :
    DoesEnd lo hi p v l' w (.returned (.tuple #[.agg #[.slice A1 l'.length c1], .bool true])) (X.setCell ⟨w.heap.size + 2, 0, none⟩ (.slice A1 l'.length c1)) := by
  have hl := (Array.getElem?_eq_some_iff.1 y2).1
  have hap1 : Ap lo hi (.agg #[.slice A1 l'.length c1]) := by
    rcases hf with e | e
    · rw [e]; exact hap
    · exact e.ap hhi
  have hx := (t.block _ hl (by show ¬ (lo ≤ w.heap.size + 2 ∧ w.heap.size + 2 < hi); omega)).trans y2
  have ts := turns_setCell X (w.heap.size + 2) 0 (.slice A1 l'.length c1)
  have hd1 := (hds.turns (Nat.le_refl _) hap1 t).setBox (u := .slice A1 l'.length c1) hx
  refine ⟨A1, c1, rfl, ⟨hd1.more (Nat.le_trans t.size ts.size), hf⟩, hz.turns ts (fun k h1 h2 e => by omega), ?_⟩
  exact ((Turns.of_below hb3).trans_ t).trans ts fun k e => Or.inr (by rw [e]; omega)

set_option maxRecDepth 100000 in
set_option maxHeartbeats 4000000 in
theorem does_add (lo hi p B n m c c2 : Nat) (d i z : Int) (Al Am : Option Addr) (own : Bool) (v : Value) (l : List Bool) (w : World) (hd01 : d = 0 ∨ d = 1) (h : BZ w lo hi p l) (hhi : hi ≤ w.heap.size) (hs : DS w B v l) (hB : B ≤ w.heap.size) (hap : Ap lo hi v) :
    Calls Tryd.prog 17 #[pv p, v, .agg #[.int .i64 d, .int .i64 i, .int .i64 z, .slice Al n c, .slice Am m c2, .bool own]] w (DoesEnd lo hi p v (addB l i) w) := by
  have hds := hs
  obtain ⟨A, cc, rfl, hr, hc, hle⟩ := hs
  obtain ⟨W, hW, hsz, hb, y0, y1, y2⟩ := three_blocks w (.slice A l.length cc) #[.int .i64 d, .int .i64 i, .int .i64 z, .slice Al n c, .slice Am m c2, .bool own] 33 39
  have DA := Lib_hid (fun (X : World) (hX : Below w.heap.size w X) => dadd_any B _ l i X (hds.below (hX.mono hB)) (Nat.le_trans hB hX.size))
  have PA := Lib_hid (fun (X : World) (hX : Below w.heap.size w X) => padd_any lo hi p l i X (h.below hX hhi))
  have c0 := cell_of_row _ _ 0 _ _ _ y0
  have c1' := cell_of_row _ _ 1 _ _ _ y1
  have c2' := cell_of_row _ _ 0 _ _ _ y1
  have HW := Lib_hid hW
  have HAP := Lib_hid hap
  have HBB := Lib_hid (And.intro hb (And.intro y1 (And.intro y2 hsz)))
  clear hW hds hr hc hle h y0 y1 y2 hb hsz hap
  have GO : ∀ (w1 : World) (A1 : Option Addr) (c1 : Nat), DS w1 w1.heap.size (.agg #[.slice A1 (addB l i).length c1]) (addB l i) → (.agg #[.slice A1 (addB l i).length c1] = Value.agg #[.slice A l.length cc] ∨ Fr W.heap.size (.agg #[.slice A1 (addB l i).length c1])) → Below W.heap.size W w1 →
      ∃ W3, W3 = w1.alloc (.cells #[.slice A1 (addB l i).length c1] 33) ∧ Below w.heap.size w W3 ∧
        (∀ X, Turns (fun k => lo ≤ k ∧ k < hi) W3 X → X.cell? ⟨w1.heap.size, 0, none⟩ = some (.slice A1 (addB l i).length c1) ∧ X.cell? ⟨w.heap.size + 1, 1, none⟩ = some (.int .i64 i) ∧ X.cell? ⟨w.heap.size + 2, 0, none⟩ = some (.slice none 0 0) ∧ X.frozen? ⟨w.heap.size + 2, 0, none⟩ = false ∧
          (X.setCell ⟨w.heap.size + 2, 0, none⟩ (.slice A1 (addB l i).length c1)).cell? ⟨w1.heap.size, 0, none⟩ = some (.slice A1 (addB l i).length c1) ∧ (X.setCell ⟨w.heap.size + 2, 0, none⟩ (.slice A1 (addB l i).length c1)).cell? ⟨w.heap.size + 1, 1, none⟩ = some (.int .i64 i) ∧
          (X.setCell ⟨w.heap.size + 2, 0, none⟩ (.slice A1 (addB l i).length c1)).cell? ⟨w.heap.size + 2, 0, none⟩ = some (.slice A1 (addB l i).length c1)) ∧
        (∀ X, Turns (fun k => lo ≤ k ∧ k < hi) W3 X → BZ X lo hi p (addB l i) → DoesEnd lo hi p (.agg #[.slice A l.length cc]) (addB l i) w (.returned (.tuple #[.agg #[.slice A1 (addB l i).length c1], .bool true])) (X.setCell ⟨w.heap.size + 2, 0, none⟩ (.slice A1 (addB l i).length c1))) := by
    intro w1 A1 c1 hds1 hf1 hb1
    obtain ⟨hb, y1, y2, hsz⟩ := HBB.out
    have hs1 := hb1.size
    have hbw := below_new w1 (.cells #[.slice A1 (addB l i).length c1] 33)
    have hx := heap_alloc_new w1 (.cells #[.slice A1 (addB l i).length c1] 33)
    have z1 := (hbw.block (w.heap.size + 1) (by omega)).trans ((hb1.block _ (by omega)).trans y1)
    have z2 := (hbw.block (w.heap.size + 2) (by omega)).trans ((hb1.block _ (by omega)).trans y2)
    have hds3 := (hds1.below hbw).more hbw.size
    have hb3 := (hb.trans (hb1.mono (by omega))).trans (hbw.mono (by omega))
    obtain ⟨W3, hW3⟩ : ∃ W3, W3 = w1.alloc (.cells #[.slice A1 (addB l i).length c1] 33) := ⟨_, rfl⟩
    rw [← hW3] at hx z1 z2 hds3 hb3 hbw
    have hl3 := (Array.getElem?_eq_some_iff.1 hx).1
    refine ⟨W3, hW3, hb3, fun X t => ?_, fun X t hz => mid_end hb3 hhi z2 hds3 HAP.out (hf1.imp id fun f => f.less (by omega)) t hz⟩
    have b1 := (t.block _ (by omega) (by show ¬ (lo ≤ w1.heap.size ∧ w1.heap.size < hi); omega)).trans hx
    have b2 := (t.block _ (by omega) (by show ¬ (lo ≤ w.heap.size + 1 ∧ w.heap.size + 1 < hi); omega)).trans z1
    have b3 := (t.block _ (by omega) (by show ¬ (lo ≤ w.heap.size + 2 ∧ w.heap.size + 2 < hi); omega)).trans z2
    have e1 := cell_of_row _ _ 0 _ _ _ b1
    have e2 := cell_of_row _ _ 1 _ _ _ b2
    have e3 := cell_of_row _ _ 0 _ _ _ b3
    exact ⟨e1, e2, e3, frozen_of_row _ _ 0 _ _ b3, (World.cell?_of_block (heap_setCell_other _ _ _ _ (by show w1.heap.size ≠ w.heap.size + 2; omega))).trans e1, (World.cell?_of_block (heap_setCell_other _ _ _ _ (by show w.heap.size + 1 ≠ w.heap.size + 2; omega))).trans e2, World.cell?_setCell_same' _ _ _ (by rw [e3]; rfl)⟩
  have HGO := Lib_hid GO
  have hW0 : w.heap.size ≤ W.heap.size := HBB.out.1.size
  clear GO
  rcases hd01 with rfl | rfl
  all_goals
    go_enter Tryd.func17, Tryd.ntmps17
    go_wp2_with fail
    rw [← HW.out]
    refine (DA.out W HBB.out.1).mono ?_
    rintro e w1 ⟨A1, c1, rfl, ⟨hds1, hf1⟩, hb1⟩
    go_upto_region 5 with (fail)
    obtain ⟨W3, hW3, hb3, KX, KE⟩ := HGO.out w1 A1 c1 hds1 hf1 hb1
    have HKX := Lib_hid KX
    have HKE := Lib_hid KE
    rw [← hW3]
    clear hds1 hf1 hb1 hW3 KX KE HGO
    generalize w1.heap.size = g at *
    generalize addB l i = l1 at *
    generalize newB l i = nb at *
    go_region_held3 (fun X => X.cell? ⟨g, 0, none⟩ = some (.slice A1 l1.length c1) ∧ X.cell? ⟨w.heap.size + 1, 1, none⟩ = some (.int .i64 i))
      (first | exact ⟨(HKX.out _ hts).2.2.2.2.1, (HKX.out _ hts).2.2.2.2.2.1⟩ | exact ⟨(HKX.out _ hts).1, (HKX.out _ hts).2.1⟩ | exact ⟨(HKX.out _ (Turns.of_below (below_d1 _))).1, (HKX.out _ (Turns.of_below (below_d1 _))).2.1⟩)
      ((first | (go_at_call 12; (with_reducible refine (PA.out _ (by exact hb3.trans ((below_d1 _).mono hb3.size))).mono ?_); rintro e ws ⟨rfl, hz, hts'⟩; have hts : Turns (fun k => lo ≤ k ∧ k < hi) W3 ws := ⟨hts'.os, hts'.tape, hts'.output, hts'.size, hts'.block⟩; obtain ⟨q1, q2, q3, q4, _⟩ := HKX.out _ hts)))
    all_goals
      have HFI := Lib_hid (HKE.out ws hts hz)
      have q5 : (ws.setCell ⟨w.heap.size + 1 + 1, 0, none⟩ (.slice A1 l1.length c1)).cell? ⟨w.heap.size + 1 + 1, 0, none⟩ = some (.slice A1 l1.length c1) := (HKX.out ws hts).2.2.2.2.2.2
      clear HKE HKX hz hts hts'
      go_wp2
      exact bodyPost_ret (v := .tuple #[.agg #[.slice A1 l1.length c1], .bool true]) (by simp [results, Tryd.results17, go_sem, q5]) rfl HFI.out

end Go.Proofs.YtiembenkdldklaaDoor
