/-
  Layer 8: the document's Of.
-/
import Derived.Test.YtiembenkdldklaaDoorYj
namespace Go.Proofs.YtiembenkdldklaaDoor
open Go Go.RowKit
set_option linter.unusedVariables false

/-- What Of takes in. -/
def ofB (n : Nat) (xs : List Int) : List Bool := xs.foldl addB (List.replicate n false)
theorem ofB_len (n : Nat) (xs : List Int) : (ofB n xs).length = n := by
  unfold ofB
  have : ∀ (l : List Bool), (xs.foldl addB l).length = l.length := by
    induction xs with
    | nil => intro l; rfl
    | cons x r ih => intro l; rw [List.foldl_cons, ih, addB_len]
  rw [this]; simp
theorem ofB_take (n : Nat) {xs : List Int} {k : Nat} (h : k < xs.length) : ofB n (xs.take (k + 1)) = addB (ofB n (xs.take k)) (xs.getD k 0) := by
  unfold ofB; rw [take_get 0 h, List.foldl_append]; rfl
theorem iz_at {w : World} {B n : Nat} {A : Option Addr} {xs : List Int} (h : Rd w B 1 A n (iz xs)) {i : Nat} (hi : i < n) :
    ∃ ad, A = some ad ∧ ad.block < B ∧ w.cell? (ad.add i) = some (.int .i64 (xs.getD i 0)) := by
  have hl : xs.length = n := by have := h.len; rw [iz_length] at this; omega
  obtain ⟨ad, e, hb, hc⟩ := h.lies (by omega)
  exact ⟨ad, e, hb, hc i _ (by rw [List.getD_eq_getElem?_getD, List.getElem?_eq_getElem (show i < xs.length by omega)]; simp [iz, show i < xs.length by omega])⟩

/-- Between two rounds of Of: the one to be told; the one so far. -/
structure OfK (w : World) (o : Nat) (A : Option Addr) (c : Nat) (l : List Bool) (W : World) : Prop where
  y1 : W.heap[w.heap.size]? = some (.cells #[.slice none 0 0] 33 (0, 0))
  yo : W.heap[o]? = some (.cells #[.slice A l.length c] 33 (0, 0))
  ds : DS W W.heap.size (.agg #[.slice A l.length c]) l
  ho : w.heap.size < o
  b : Below w.heap.size w W
  fr : ∀ k, ob A = some k → w.heap.size ≤ k

/-- A row of truths does not lie in a box that holds a slice. -/
theorem DS.setBox {w : World} {B o : Nat} {v u : Value} {l : List Bool} {A : Option Addr} {n c : Nat} {T : TypeId} {fr : Nat × Nat} (h : DS w B v l) (hx : w.heap[o]? = some (.cells #[.slice A n c] T fr)) : DS (w.setCell ⟨o, 0, none⟩ u) B v l := by
  obtain ⟨A', c', e, hr, hc⟩ := h
  refine ⟨A', c', e, ⟨hr.len, fun h0 => ?_⟩, hc⟩
  obtain ⟨ad, e1, hb, hcell⟩ := hr.lies h0
  refine ⟨ad, e1, hb, fun j y hy => ?_⟩
  have h1 := hcell j y hy
  have hne : (ad.add j).block ≠ o := by
    intro e2
    generalize ad.add j = q at *
    obtain ⟨b, off, spot⟩ := q
    obtain rfl : b = o := e2
    have hs : spot = none := World.cell?_spot h1
    subst hs
    rw [cell_of_row w b off _ _ _ hx] at h1
    obtain ⟨x, _, hxx⟩ := List.mem_map.1 (List.mem_of_getElem? hy)
    match off, h1 with
    | 0, h1 => simp at h1; rw [← hxx] at h1; cases h1
    | k + 1, h1 => simp at h1
  exact (World.cell?_of_block (heap_setCell_other w ⟨o, 0, none⟩ _ u hne)).trans h1

theorem OfK.step {w wr w2 : World} {o c3 c4 : Nat} {A3 A4 : Option Addr} {l1 l2 : List Bool} (h : OfK w o A3 c3 l1 wr) (hdf : DS w2 w2.heap.size (.agg #[.slice A4 l2.length c4]) l2 ∧ (Value.agg #[.slice A4 l2.length c4] = .agg #[.slice A3 l1.length c3] ∨ Fr wr.heap.size (.agg #[.slice A4 l2.length c4]))) (hb : Below wr.heap.size wr w2) : OfK w o A4 c4 l2 (w2.setCell ⟨o, 0, none⟩ (.slice A4 l2.length c4)) := by
  have hol := (Array.getElem?_eq_some_iff.1 h.yo).1
  have hho := h.ho
  have zo := (hb.block o hol).trans h.yo
  obtain ⟨hds, hf⟩ := hdf
  have hfr : ∀ k, ob A4 = some k → w.heap.size ≤ k := by
    rcases hf with hf | hf
    · simp only [Value.agg.injEq, Array.mk.injEq, List.cons.injEq, Value.slice.injEq, and_true] at hf
      rw [hf.1]
      exact h.fr
    · exact (hf.less h.b.size).out
  refine ⟨(heap_setCell_other _ _ _ _ (by show w.heap.size ≠ o; omega)).trans ((hb.block _ (by omega)).trans h.y1), ?_, ?_, h.ho, (h.b.trans (hb.mono h.b.size)).setCell (p := ⟨o, 0, none⟩) (by show w.heap.size ≤ o; omega) _, hfr⟩
  · rw [heap_setCell_same _ o 0 _ _ _ zo]; rfl
  · have := hds.setBox (u := .slice A4 l2.length c4) zo
    simpa using this
theorem OfK.fin {w wr : World} {o c3 : Nat} {A3 : Option Addr} {l : List Bool} (h : OfK w o A3 c3 l wr) : DS (wr.setCell ⟨w.heap.size, 0, none⟩ (.slice A3 l.length c3)) (wr.setCell ⟨w.heap.size, 0, none⟩ (.slice A3 l.length c3)).heap.size (.agg #[.slice A3 l.length c3]) l ∧ Below w.heap.size w (wr.setCell ⟨w.heap.size, 0, none⟩ (.slice A3 l.length c3)) := by
  refine ⟨?_, h.b.setCell (p := ⟨w.heap.size, 0, none⟩) (Nat.le_refl _) _⟩
  have := h.ds.setBox (u := .slice A3 l.length c3) h.y1
  simpa using this

set_option maxRecDepth 100000 in
set_option maxHeartbeats 4000000 in
theorem dof_new (B n c : Nat) (sz : Int) (A : Option Addr) (xs : List Int) (w : World) (hr : Rd w B 1 A n (iz xs)) (hB : B ≤ w.heap.size) (hn : n ≤ 1000000) :
    Calls Tryd.prog 15 #[.int .i64 sz, .slice A n c] w fun e w' => ∃ v, e = .returned v ∧ (DS w' w'.heap.size v (ofB (clampN sz) xs) ∧ Fr w.heap.size v) ∧ Below w.heap.size w w' := by
  have hl : xs.length = n := by have := hr.len; rw [iz_length] at this; omega
  have HH := Lib_hid (fun (X : World) (hX : Below w.heap.size w X) (i : Nat) (hi : i < n) => iz_at (hr.below (hX.mono hB)) hi)
  have hb := below_new w (.cells #[.slice none 0 0] 33)
  have hx := heap_alloc_new w (.cells #[.slice none 0 0] 33)
  have hs : (w.alloc (.cells #[.slice none 0 0] 33)).heap.size = w.heap.size + 1 := by simp
  have HNW := Lib_hid (dnew_any sz (w.alloc (.cells #[.slice none 0 0] 33)))
  obtain ⟨m, hm⟩ : ∃ m, m = clampN sz := ⟨_, rfl⟩
  have hm6 : m ≤ 65536 := by rw [hm]; exact clampN_le sz
  have hf : Hid (ofB m (xs.take 0) = List.replicate m false ∧ ofB m (xs.take n) = ofB m xs) := ⟨rfl, by rw [← hl, List.take_length]⟩
  have ADD := Lib_hid (fun (l : List Bool) (A2 : Option Addr) (c2 : Nat) (i : Int) (X : World) (h : DS X X.heap.size (.agg #[.slice A2 l.length c2]) l) => dadd_any X.heap.size _ l i X h (Nat.le_refl _))
  have HL := Lib_hid hl
  have HB := Lib_hid (And.intro hb (And.intro hx hs))
  rw [← hm] at HNW ⊢
  clear hr hl hm hb hx hs
  go_enter Tryd.func15, Tryd.ntmps15
  go_wp2_with fail
  refine HNW.out.mono ?_
  rintro e w1 ⟨A2, c2, rfl, ho, hb1⟩
  have hK : OfK w w1.heap.size A2 c2 (ofB m (xs.take 0)) (w1.alloc (.cells #[.slice A2 m c2] 33)) := by
    have hs1 := hb1.size
    rw [hf.out.1]
    rw [List.length_replicate] at ho
    have hb2 := below_new w1 (.cells #[.slice A2 m c2] 33)
    refine ⟨(heap_alloc_old _ _ (by have := HB.out.2.2; omega)).trans ((hb1.block _ (by have := HB.out.2.2; omega)).trans HB.out.2.1), by rw [List.length_replicate]; exact heap_alloc_new w1 _, ⟨A2, c2, rfl, ?_, by rw [List.length_replicate]; exact own_cap ho, by simpa using hm6⟩, by have := HB.out.2.2; omega, (HB.out.1.trans (hb1.mono (by have := HB.out.2.2; omega))).trans (hb2.mono (by have := HB.out.2.2; omega)), fun k hk => by have := own_ge ho k (by rw [ob_eq]; exact hk); have := HB.out.2.2; omega⟩
    rw [List.length_replicate]
    exact ((Rd.own ho).below hb2).more (by simp)
  have HK := Lib_hid hK
  clear hK ho hb1
  go_upto_region 2 with (fail)
  have hk0 := HK.out
  generalize w1.alloc (.cells #[.slice A2 m c2] 33) = W3 at *
  generalize w1.heap.size = o at *
  clear HK HNW
  go_wp2
  go_loopw [6] (fun i wr => ∃ (k : Nat) (A3 : Option Addr) (c3 : Nat), i = .int .i64 k ∧ k ≤ n ∧ OfK w o A3 c3 (ofB m (xs.take k)) wr) (fun i _ => n - (intOf i).toNat)
  case atStart => exact ⟨0, A2, c2, rfl, Nat.zero_le _, hk0⟩
  case round =>
    clear hk0
    obtain ⟨k, A3, c3, rfl, hk, hK⟩ := hrel
    by_cases hlt : k < n
    · obtain ⟨ad, rfl, hbl, c1⟩ := HH.out _ hK.b k hlt
      have qo := cell_of_row _ _ 0 _ _ _ hK.yo
      have fo := frozen_of_row _ _ 0 _ _ hK.yo
      have hst := ofB_take m (xs := xs) (k := k) (by rw [HL.out]; exact hlt)
      have HAD := Lib_hid (fun (X : World) (hX : Below wr.heap.size wr X) => ADD.out (ofB m (xs.take k)) A3 c3 (xs.getD k 0) X ((hK.ds.below hX).more hX.size))
      have HST := Lib_hid hst
      have HKK := Lib_hid hK
      have hol := (Array.getElem?_eq_some_iff.1 hK.yo).1
      clear hst hK
      generalize xs.getD k 0 = x at *
      generalize hl1 : ofB m (xs.take k) = l1 at *
      generalize hl2 : ofB m (xs.take (k + 1)) = l2 at *
      have HL2 := Lib_hid hl2
      clear hl1 hl2
      go_wp2
      go_region_with ((first | (go_at_call 36; refine (HAD.out _ (below_drew_ (Below.refl _ _))).mono ?_; rintro e w2 ⟨A4, c4, rfl, hds, hb2⟩; have zo : w2.heap[o]? = _ := (hb2.block o hol).trans HKK.out.yo; have qo2 := cell_of_row _ _ 0 _ _ _ zo; have fo2 := frozen_of_row _ _ 0 _ _ zo)))
      all_goals
        have HN2 := Lib_hid (HKK.out.step (by rw [← HST.out] at hds; exact hds) (show Below wr.heap.size wr w2 from ⟨hb2.os, hb2.tape, hb2.output, hb2.size, hb2.block⟩))
        rw [← HST.out]
        clear hb2 hds zo qo2 fo2
        go_wp2
        go_roundw
        case rel => exact ⟨k + 1, A4, c4, by go_num, by omega, by rw [HL2.out]; exact HN2.out⟩
        case measure => simp [intOf]; omega
    · obtain rfl : k = n := by omega
      rw [hf.out.2] at hK
      have hF := hK.fin
      have qo := cell_of_row _ _ 0 _ _ _ hK.yo
      have q1 := cell_of_row _ _ 0 _ _ _ hK.y1
      have f1 := frozen_of_row _ _ 0 _ _ hK.y1
      have HF := Lib_hid hF
      have HFR := Lib_hid hK.fr
      clear hF hK
      generalize hlf : ofB m xs = lf at *
      have HLF := Lib_hid hlf
      clear hlf
      have q2 := World.cell?_setCell_same' wr ⟨w.heap.size, 0, none⟩ (.slice A3 lf.length c3) (by rw [q1]; rfl)
      go_wp2
      exact bodyPost_ret (v := .agg #[.slice A3 lf.length c3]) (by simp [results, Tryd.results15, go_sem, q2]) rfl ⟨_, rfl, ⟨by rw [HLF.out]; exact HF.out.1, Fr.mk HFR.out⟩, HF.out.2⟩

theorem dof_any (B n c : Nat) (sz : Int) (A : Option Addr) (xs : List Int) (w : World) (hr : Rd w B 1 A n (iz xs)) (hB : B ≤ w.heap.size) (hn : n ≤ 1000000) :
    Calls Tryd.prog 15 #[.int .i64 sz, .slice A n c] w fun e w' => ∃ v, e = .returned v ∧ DS w' w'.heap.size v (ofB (clampN sz) xs) ∧ Below w.heap.size w w' :=
  (dof_new B n c sz A xs w hr hB hn).mono fun e w' ⟨v, e1, h, hb⟩ => ⟨v, e1, h.1, hb⟩

end Go.Proofs.YtiembenkdldklaaDoor
