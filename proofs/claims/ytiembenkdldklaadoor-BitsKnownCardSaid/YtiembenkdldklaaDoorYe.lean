/-
  Layer 8: the document's with, Add, Remove, All, Next.
-/
import Derived.Test.YtiembenkdldklaaDoorYd
namespace Go.Proofs.YtiembenkdldklaaDoor
open Go Go.RowKit
set_option linter.unusedVariables false

set_option maxRecDepth 100000 in
theorem dwith_any (B : Nat) (v : Value) (l : List Bool) (k : Nat) (b : Bool) (w : World) (h : DS w B v l) (hB : B ≤ w.heap.size) (hk : k < l.length) :
    Calls Tryd.prog 52 #[v, .int .i64 (k : Int), .bool b] w (DNew (l.set k b) w) := by
  obtain ⟨i0, hi, hz0, hz1, hz2⟩ := info_parts Tryd.infoB
  obtain ⟨A, c, rfl, hr, hc, hle⟩ := h
  obtain ⟨n, hn⟩ : ∃ n, n = l.length := ⟨_, rfl⟩
  rw [← hn] at hr hc hle hk ⊢
  obtain ⟨W, hW⟩ : ∃ W, W = (w.alloc (.cells #[.slice A n c] 33)).alloc (.cells #[.slice none 0 0] 33) := ⟨_, rfl⟩
  have hs : W.heap.size = w.heap.size + 2 := by rw [hW]; simp
  have hb0 := below_new w (.cells #[.slice A n c] 33)
  have hb : Below w.heap.size w W := by rw [hW]; exact hb0.alloc hb0.size _
  have y0 : W.heap[w.heap.size]? = some (.cells #[.slice A n c] 33 (0, 0)) := by rw [hW]; exact (heap_alloc_old _ _ (by simp)).trans (heap_alloc_new w _)
  have y1 : W.heap[w.heap.size + 1]? = some (.cells #[.slice none 0 0] 33 (0, 0)) := by
    rw [hW]; have := heap_alloc_new (w.alloc (.cells #[.slice A n c] 33)) (.cells #[.slice none 0 0] 33); rwa [World.size_alloc] at this
  have c0 := cell_of_row _ _ 0 _ _ _ y0
  have hon : W.ownsRow (w.heap.size + 2) 4 1 (.slice none 0 0) 0 [] := World.ownsRow_nil _ _ _ _
  have hr2 : Rd W B 1 A n (bo l) := hr.below (hb.mono hB)
  have hm1 : 0 + n ≤ maxLen := by unfold maxLen; omega
  have hm2 : (0 + n) * 1 ≤ 140737488355328 := by omega
  have hsz : w.heap.size + 2 ≤ W.heap.size := by omega
  have key : ∀ (v' : Value) (w1 : World), w1.ownsRow (w.heap.size + 2) 4 1 v' (0 + n) ([] ++ bo l) → Stp W w1 (.slice none 0 0) v' →
      ∃ g c', v' = .slice (some ⟨g, 0, none⟩) n c' ∧ (n ≤ c' ∧ c' ≤ 9223372036854775807) ∧ (∃ u, w1.cell? ⟨g, k, none⟩ = some u) ∧ w1.frozen? ⟨g, k, none⟩ = false ∧
        (w1.setCell ⟨g, k, none⟩ (.bool b)).heap[w.heap.size + 1]? = some (.cells #[.slice none 0 0] 33 (0, 0)) ∧
        DNew (l.set k b) w (.returned (.agg #[.slice (some ⟨g, 0, none⟩) n c'])) ((w1.setCell ⟨g, k, none⟩ (.bool b)).setCell ⟨w.heap.size + 1, 0, none⟩ (.slice (some ⟨g, 0, none⟩) n c')) := by
    intro v' w1 ho hst
    simp only [Nat.zero_add, List.nil_append] at ho
    obtain ⟨A2, c2, rfl, _⟩ := own_form ho
    obtain ⟨g, cap, hv, hge, hlt⟩ := ho.form (by omega)
    obtain ⟨rfl, rfl⟩ : A2 = some ⟨g, 0, none⟩ ∧ c2 = cap := by injection hv with h1 _ h2; exact ⟨h1, h2⟩
    have hst2 := ho.stored k (.bool b)
    have hb1 : Below w.heap.size w w1 := hb.trans ((hst.below (B := w.heap.size) (by omega) (fun j hj => by cases hj)))
    have hz1 : w1.heap[w.heap.size + 1]? = some (.cells #[.slice none 0 0] 33 (0, 0)) := (hst.grow.block _ (by omega) (fun e => by cases e)).trans y1
    have hne : w.heap.size + 1 ≠ g := by omega
    refine ⟨g, c2, rfl, own_cap ho, ⟨_, ho.cells (g := g) rfl k (.bool (bt l k)) (by rw [bt_lt (by omega)]; simp [bo, show k < l.length by omega]) |> fun e => by rwa [add_plain, Nat.zero_add] at e⟩, ho.frozenAt k, ?_, some ⟨g, 0, none⟩, c2, by rw [List.length_set, ← hn], ?_, ?_⟩
    · exact (heap_setCell_other _ _ _ _ (by show w.heap.size + 1 ≠ g; omega)).trans hz1
    · rw [List.length_set, ← hn]
      have e : (bo l).set k (.bool b) = bo (l.set k b) := by simp [bo, List.map_set]
      rw [← e]
      exact own_keep (own_base hst2.1 (fun j hj => by have := own_ge hst2.1 j hj; omega)) fun j hj => heap_setCell_other _ _ _ _ (by have := own_ge hst2.1 j hj; show j ≠ w.heap.size + 1; omega)
    · exact (hb1.setCell (p := ⟨g, k, none⟩) (by show w.heap.size ≤ g; omega) _).setCell (p := ⟨w.heap.size + 1, 0, none⟩) (by show w.heap.size ≤ w.heap.size + 1; omega) _
  have HK := Lib_hid key
  have HW := Lib_hid hW
  have HN := Lib_hid hn
  clear key hb hb0 y0 y1 hW hr hle hn
  go_enter Tryd.func52, Tryd.ntmps52
  go_wp2_with (at_builtin; rw [← HW.out]; refine wpList_app rfl _ _ 31 rfl (w.heap.size + 2) 4 i0 (.bool false) 1 1 Tryd.underlying31 hi hz0 hz1 hz2 rfl (by decide) _ 0 [] rfl hon B A n c (bo l) rfl hr2 (bo_one _) hm1 hm2 hsz ?_; intro v' w1 hown hst; obtain ⟨g, c', rfl, hcc, ⟨u, hu⟩, hf, hz, hD⟩ := HK.out v' w1 hown hst; have q0 := cell_of_row _ _ 0 _ _ _ hz; have q1 := frozen_of_row _ _ 0 _ _ hz; have HD := Lib_hid hD; clear hown hst hD hz)
  have q2 := World.cell?_setCell_same' (w1.setCell ⟨g, k, none⟩ (.bool b)) ⟨w.heap.size + 1, 0, none⟩ (.slice (some ⟨g, 0, none⟩) n c') (by rw [q0]; rfl)
  exact bodyPost_ret (v := .agg #[.slice (some ⟨g, 0, none⟩) n c']) (by simp [results, Tryd.results52, go_sem, q2]) rfl HD.out

/-- A set of the document's lies in a block from B on. -/
def Fr (B : Nat) (v : Value) : Prop := ∀ A n c, v = .agg #[.slice A n c] → ∀ k, ob A = some k → B ≤ k
theorem Fr.mk {B n c : Nat} {A : Option Addr} (h : ∀ k, ob A = some k → B ≤ k) : Fr B (.agg #[.slice A n c]) := by
  intro A' n' c' e
  simp only [Value.agg.injEq, Array.mk.injEq, List.cons.injEq, Value.slice.injEq, and_true] at e
  obtain ⟨rfl, _, _⟩ := e
  exact h
theorem Fr.out {B n c : Nat} {A : Option Addr} (h : Fr B (.agg #[.slice A n c])) : ∀ k, ob A = some k → B ≤ k := h A n c rfl
theorem Fr.less {B B' : Nat} {v : Value} (h : Fr B v) (hb : B' ≤ B) : Fr B' v := fun A n c e k hk => Nat.le_trans hb (h A n c e k hk)

/-- How Add and Remove end. -/
def DPair (v : Value) (l : List Bool) (b : Bool) (w : World) (e : Ending) (w' : World) : Prop :=
  ∃ A c, e = .returned (.tuple #[.agg #[.slice A l.length c], .bool b]) ∧ (DS w' w'.heap.size (.agg #[.slice A l.length c]) l ∧ (.agg #[.slice A l.length c] = v ∨ Fr w.heap.size (.agg #[.slice A l.length c]))) ∧ Below w.heap.size w w'

/-- The two blocks of Add, of Remove: the set; the one to be told. -/
theorem two_blocks (w : World) (v : Value) (T : TypeId) : ∃ W, W = (w.alloc (.cells #[v] T)).alloc (.cells #[.slice none 0 0] T) ∧ W.heap.size = w.heap.size + 2 ∧ Below w.heap.size w W ∧
    W.heap[w.heap.size]? = some (.cells #[v] T (0, 0)) ∧ W.heap[w.heap.size + 1]? = some (.cells #[.slice none 0 0] T (0, 0)) := by
  refine ⟨_, rfl, by simp, (below_new w _).alloc (below_new w _).size _, (heap_alloc_old _ _ (by simp)).trans (heap_alloc_new w _), ?_⟩
  have := heap_alloc_new (w.alloc (.cells #[v] T)) (.cells #[.slice none 0 0] T)
  rwa [World.size_alloc] at this

set_option maxRecDepth 100000 in
theorem dadd_any (B : Nat) (v : Value) (l : List Bool) (i : Int) (w : World) (h : DS w B v l) (hB : B ≤ w.heap.size) :
    Calls Tryd.prog 36 #[v, .int .i64 i] w (DPair v (addB l i) (newB l i) w) := by
  have hd := h
  obtain ⟨A, c, rfl, hr, hc, hle⟩ := h
  have hdl := addB_len l i
  obtain ⟨W, hW, hs, hb, y0, y1⟩ := two_blocks w (.slice A l.length c) 33
  have c0 := cell_of_row _ _ 0 _ _ _ y0
  have HM := Lib_hid (dmay_any B _ l i W (hd.below (hb.mono hB)))
  have HWI := Lib_hid (fun (k : Nat) (hk : k < l.length) (X : World) (hX : Below w.heap.size w X) => dwith_any B _ l k true X (hd.below (hX.mono hB)) (by have := hX.size; omega) hk)
  have HW := Lib_hid hW
  -- back with the old one
  have same : ∀ X : World, Below W.heap.size W X → addB l i = l → newB l i = false → X.heap[w.heap.size]? = some (.cells #[.slice A l.length c] 33 (0, 0)) ∧ X.heap[w.heap.size + 1]? = some (.cells #[.slice none 0 0] 33 (0, 0)) ∧
      DPair (.agg #[.slice A l.length c]) (addB l i) (newB l i) w (.returned (.tuple #[.agg #[.slice A l.length c], .bool false])) (X.setCell ⟨w.heap.size + 1, 0, none⟩ (.slice A l.length c)) := by
    intro X hX e1 e2
    have hXb := hb.trans (hX.mono (by omega))
    have hb9 := hXb.setCell (p := ⟨w.heap.size + 1, 0, none⟩) (by show w.heap.size ≤ w.heap.size + 1; omega) (.slice A l.length c)
    refine ⟨(hX.block _ (by omega)).trans y0, (hX.block _ (by omega)).trans y1, A, c, by rw [e1, e2], ?_, hb9⟩
    rw [e1]
    exact ⟨(hd.below (hb9.mono hB)).more (Nat.le_trans hB hb9.size), .inl rfl⟩
  -- the one that was made
  have made : ∀ (k : Nat) (X Y : World) (A2 : Option Addr) (c2 : Nat), i = (k : Int) → k < l.length → newB l i = true → Below W.heap.size W X → Y.ownsRow X.heap.size 4 1 (.slice A2 (l.set k true).length c2) (l.set k true).length (bo (l.set k true)) → Below X.heap.size X Y →
      Y.heap[w.heap.size + 1]? = some (.cells #[.slice none 0 0] 33 (0, 0)) ∧ DPair (.agg #[.slice A l.length c]) (addB l i) (newB l i) w (.returned (.tuple #[.agg #[.slice A2 (l.set k true).length c2], .bool true])) (Y.setCell ⟨w.heap.size + 1, 0, none⟩ (.slice A2 (l.set k true).length c2)) := by
    intro k X Y A2 c2 hik hk e2 hX ho hY
    have e1 : addB l i = l.set k true := by unfold addB; rw [hik, if_pos ⟨by omega, by omega⟩]; rfl
    have hsX := hX.size
    have hYb := (hb.trans (hX.mono (by omega))).trans (hY.mono (by omega))
    have hb9 := hYb.setCell (p := ⟨w.heap.size + 1, 0, none⟩) (by show w.heap.size ≤ w.heap.size + 1; omega) (.slice A2 (l.set k true).length c2)
    refine ⟨(hY.block _ (by omega)).trans ((hX.block _ (by omega)).trans y1), A2, c2, by rw [e1, e2], ?_, hb9⟩
    rw [e1]
    refine ⟨⟨A2, c2, rfl, Rd.own (own_keep ho fun j hj => heap_setCell_other _ _ _ _ (by have := own_ge ho j hj; show j ≠ w.heap.size + 1; omega)), own_cap ho, by simpa using hle⟩, .inr (Fr.mk fun j hj => by have := own_ge ho j (by rw [ob_eq]; exact hj); omega)⟩
  have HS := Lib_hid same
  have HD := Lib_hid made
  have hXsz : w.heap.size ≤ W.heap.size := by omega
  have HB := Lib_hid (And.intro hb (And.intro y0 (And.intro y1 hs)))
  by_cases hi : 0 ≤ i ∧ i < l.length
  · obtain ⟨k, rfl⟩ : ∃ k : Nat, i = k := ⟨i.toNat, by omega⟩
    have hk : k < l.length := by omega
    rw [inB_nat hk] at HM
    obtain ⟨b, off, rfl, hbB, hcell⟩ := b_at hr hk
    have HC := Lib_hid hcell
    have hbw : b < w.heap.size := by omega
    cases hbt : bt l k with
    | true =>
      have e1 : addB l (k : Int) = l := addB_old (.inr (by rw [hasB_nat, hbt]))
      have e2 : newB l (k : Int) = false := by unfold newB; rw [hasB_nat, hbt]; simp
      have HE := Lib_hid (And.intro e1 e2)
      rw [hbt] at HC
      clear same made hb y0 y1 hs hd hr hW hcell hi hdl hle e1 e2 c0 hbt
      go_enter Tryd.func36, Tryd.ntmps36
      go_wp2_with fail
      rw [← HW.out]
      refine HM.out.mono ?_
      rintro e w1 ⟨rfl, hb1⟩
      obtain ⟨z0, z1, hD⟩ := HS.out w1 hb1 HE.out.1 HE.out.2
      have q0 := cell_of_row _ _ 0 _ _ _ z0
      have q1 := cell_of_row _ _ 0 _ _ _ z1
      have f1 := frozen_of_row _ _ 0 _ _ z1
      have g1 : w1.cell? ⟨b, off + k, none⟩ = some (.bool true) := ((HB.out.1.trans (hb1.mono hXsz)).cell (p := ⟨b, off + k, none⟩) hbw).trans HC.out
      have HDD := Lib_hid hD
      clear hb1 hD z0 z1
      go_wp2
      have q2 := World.cell?_setCell_same' w1 ⟨w.heap.size + 1, 0, none⟩ (.slice (some ⟨b, off, none⟩) l.length c) (by rw [q1]; rfl)
      exact bodyPost_ret (v := .tuple #[.agg #[.slice (some ⟨b, off, none⟩) l.length c], .bool false]) (by simp [results, Tryd.results36, go_sem, q2]) rfl HDD.out
    | false =>
      have e2 : newB l (k : Int) = true := by unfold newB; rw [hasB_nat, hbt, inB_nat hk]; rfl
      have HE := Lib_hid e2
      rw [hbt] at HC
      clear same made hb y0 y1 hs hd hr hW hcell hi hdl hle e2 c0 hbt
      go_enter Tryd.func36, Tryd.ntmps36
      go_wp2_with fail
      rw [← HW.out]
      refine HM.out.mono ?_
      rintro e w1 ⟨rfl, hb1⟩
      have q0 := cell_of_row _ _ 0 _ _ _ ((hb1.block w.heap.size (by rw [HB.out.2.2.2]; omega)).trans HB.out.2.1)
      have g1 : w1.cell? ⟨b, off + k, none⟩ = some (.bool false) := ((HB.out.1.trans (hb1.mono hXsz)).cell (p := ⟨b, off + k, none⟩) hbw).trans HC.out
      have HB1 := Lib_hid hb1
      clear hb1
      go_wp2_with fail
      refine (HWI.out k hk w1 (HB.out.1.trans (HB1.out.mono hXsz))).mono ?_
      rintro e w2 ⟨A2, c2, rfl, ho, hb2⟩
      obtain ⟨z1, hD⟩ := HD.out k w1 w2 A2 c2 rfl hk HE.out HB1.out ho hb2
      have q1 := cell_of_row _ _ 0 _ _ _ z1
      have f1 := frozen_of_row _ _ 0 _ _ z1
      have HDD := Lib_hid hD
      clear hb2 hD z1 ho
      generalize (l.set k true).length = n2 at *
      go_wp2
      have q2 := World.cell?_setCell_same' w2 ⟨w.heap.size + 1, 0, none⟩ (.slice A2 n2 c2) (by rw [q1]; rfl)
      exact bodyPost_ret (v := .tuple #[.agg #[.slice A2 n2 c2], .bool true]) (by simp [results, Tryd.results36, go_sem, q2]) rfl HDD.out
  · have e1 : addB l i = l := addB_old (.inl (inB_no hi))
    have e2 : newB l i = false := by unfold newB; rw [inB_no hi]; rfl
    have HE := Lib_hid (And.intro e1 e2)
    rw [inB_no hi] at HM
    clear same made hb y0 y1 hs hd hr hW hi hdl hle e1 e2 c0
    go_enter Tryd.func36, Tryd.ntmps36
    go_wp2_with fail
    rw [← HW.out]
    refine HM.out.mono ?_
    rintro e w1 ⟨rfl, hb1⟩
    obtain ⟨z0, z1, hD⟩ := HS.out w1 hb1 HE.out.1 HE.out.2
    have q0 := cell_of_row _ _ 0 _ _ _ z0
    have q1 := cell_of_row _ _ 0 _ _ _ z1
    have f1 := frozen_of_row _ _ 0 _ _ z1
    have HDD := Lib_hid hD
    clear hb1 hD z0 z1
    go_wp2
    have q2 := World.cell?_setCell_same' w1 ⟨w.heap.size + 1, 0, none⟩ (.slice A l.length c) (by rw [q1]; rfl)
    exact bodyPost_ret (v := .tuple #[.agg #[.slice A l.length c], .bool false]) (by simp [results, Tryd.results36, go_sem, q2]) rfl HDD.out

set_option maxRecDepth 100000 in
theorem drem_any (B : Nat) (v : Value) (l : List Bool) (i : Int) (w : World) (h : DS w B v l) (hB : B ≤ w.heap.size) :
    Calls Tryd.prog 38 #[v, .int .i64 i] w (DPair v (remB l i) (hasB l i) w) := by
  have hd := h
  obtain ⟨A, c, rfl, hr, hc, hle⟩ := h
  have hdl := remB_len l i
  obtain ⟨W, hW, hs, hb, y0, y1⟩ := two_blocks w (.slice A l.length c) 33
  have c0 := cell_of_row _ _ 0 _ _ _ y0
  have HM := Lib_hid (dhas_any B _ l i W (hd.below (hb.mono hB)) (by omega))
  have HWI := Lib_hid (fun (k : Nat) (hk : k < l.length) (X : World) (hX : Below w.heap.size w X) => dwith_any B _ l k false X (hd.below (hX.mono hB)) (by have := hX.size; omega) hk)
  have HW := Lib_hid hW
  -- back with the old one
  have same : ∀ X : World, Below W.heap.size W X → remB l i = l → hasB l i = false → X.heap[w.heap.size]? = some (.cells #[.slice A l.length c] 33 (0, 0)) ∧ X.heap[w.heap.size + 1]? = some (.cells #[.slice none 0 0] 33 (0, 0)) ∧
      DPair (.agg #[.slice A l.length c]) (remB l i) (hasB l i) w (.returned (.tuple #[.agg #[.slice A l.length c], .bool false])) (X.setCell ⟨w.heap.size + 1, 0, none⟩ (.slice A l.length c)) := by
    intro X hX e1 e2
    have hXb := hb.trans (hX.mono (by omega))
    have hb9 := hXb.setCell (p := ⟨w.heap.size + 1, 0, none⟩) (by show w.heap.size ≤ w.heap.size + 1; omega) (.slice A l.length c)
    refine ⟨(hX.block _ (by omega)).trans y0, (hX.block _ (by omega)).trans y1, A, c, by rw [e1, e2], ?_, hb9⟩
    rw [e1]
    exact ⟨(hd.below (hb9.mono hB)).more (Nat.le_trans hB hb9.size), .inl rfl⟩
  -- the one that was made
  have made : ∀ (k : Nat) (X Y : World) (A2 : Option Addr) (c2 : Nat), i = (k : Int) → k < l.length → hasB l i = true → Below W.heap.size W X → Y.ownsRow X.heap.size 4 1 (.slice A2 (l.set k false).length c2) (l.set k false).length (bo (l.set k false)) → Below X.heap.size X Y →
      Y.heap[w.heap.size + 1]? = some (.cells #[.slice none 0 0] 33 (0, 0)) ∧ DPair (.agg #[.slice A l.length c]) (remB l i) (hasB l i) w (.returned (.tuple #[.agg #[.slice A2 (l.set k false).length c2], .bool true])) (Y.setCell ⟨w.heap.size + 1, 0, none⟩ (.slice A2 (l.set k false).length c2)) := by
    intro k X Y A2 c2 hik hk e2 hX ho hY
    have e1 : remB l i = l.set k false := by unfold remB; rw [hik, if_pos ⟨by omega, by omega⟩]; rfl
    have hsX := hX.size
    have hYb := (hb.trans (hX.mono (by omega))).trans (hY.mono (by omega))
    have hb9 := hYb.setCell (p := ⟨w.heap.size + 1, 0, none⟩) (by show w.heap.size ≤ w.heap.size + 1; omega) (.slice A2 (l.set k false).length c2)
    refine ⟨(hY.block _ (by omega)).trans ((hX.block _ (by omega)).trans y1), A2, c2, by rw [e1, e2], ?_, hb9⟩
    rw [e1]
    refine ⟨⟨A2, c2, rfl, Rd.own (own_keep ho fun j hj => heap_setCell_other _ _ _ _ (by have := own_ge ho j hj; show j ≠ w.heap.size + 1; omega)), own_cap ho, by simpa using hle⟩, .inr (Fr.mk fun j hj => by have := own_ge ho j (by rw [ob_eq]; exact hj); omega)⟩
  have HS := Lib_hid same
  have HD := Lib_hid made
  have hXsz : w.heap.size ≤ W.heap.size := by omega
  have HB := Lib_hid (And.intro hb (And.intro y0 (And.intro y1 hs)))
  by_cases hi : 0 ≤ i ∧ i < l.length
  · obtain ⟨k, rfl⟩ : ∃ k : Nat, i = k := ⟨i.toNat, by omega⟩
    have hk : k < l.length := by omega
    rw [hasB_nat] at HM
    obtain ⟨b, off, rfl, hbB, hcell⟩ := b_at hr hk
    have HC := Lib_hid hcell
    have hbw : b < w.heap.size := by omega
    cases hbt : bt l k with
    | false =>
      have e1 : remB l (k : Int) = l := remB_old (by rw [hasB_nat, hbt])
      have e2 : hasB l (k : Int) = false := by rw [hasB_nat, hbt]
      have HE := Lib_hid (And.intro e1 e2)
      rw [hbt] at HC HM
      clear same made hb y0 y1 hs hd hr hW hcell hi hdl hle e1 e2 c0 hbt
      go_enter Tryd.func38, Tryd.ntmps38
      go_wp2_with fail
      rw [← HW.out]
      refine HM.out.mono ?_
      rintro e w1 ⟨rfl, hb1⟩
      obtain ⟨z0, z1, hD⟩ := HS.out w1 hb1 HE.out.1 HE.out.2
      have q0 := cell_of_row _ _ 0 _ _ _ z0
      have q1 := cell_of_row _ _ 0 _ _ _ z1
      have f1 := frozen_of_row _ _ 0 _ _ z1
      have g1 : w1.cell? ⟨b, off + k, none⟩ = some (.bool false) := ((HB.out.1.trans (hb1.mono hXsz)).cell (p := ⟨b, off + k, none⟩) hbw).trans HC.out
      have HDD := Lib_hid hD
      clear hb1 hD z0 z1
      go_wp2
      have q2 := World.cell?_setCell_same' w1 ⟨w.heap.size + 1, 0, none⟩ (.slice (some ⟨b, off, none⟩) l.length c) (by rw [q1]; rfl)
      exact bodyPost_ret (v := .tuple #[.agg #[.slice (some ⟨b, off, none⟩) l.length c], .bool false]) (by simp [results, Tryd.results38, go_sem, q2]) rfl HDD.out
    | true =>
      have e2 : hasB l (k : Int) = true := by rw [hasB_nat, hbt]
      have HE := Lib_hid e2
      rw [hbt] at HC HM
      clear same made hb y0 y1 hs hd hr hW hcell hi hdl hle e2 c0 hbt
      go_enter Tryd.func38, Tryd.ntmps38
      go_wp2_with fail
      rw [← HW.out]
      refine HM.out.mono ?_
      rintro e w1 ⟨rfl, hb1⟩
      have q0 := cell_of_row _ _ 0 _ _ _ ((hb1.block w.heap.size (by rw [HB.out.2.2.2]; omega)).trans HB.out.2.1)
      have g1 : w1.cell? ⟨b, off + k, none⟩ = some (.bool true) := ((HB.out.1.trans (hb1.mono hXsz)).cell (p := ⟨b, off + k, none⟩) hbw).trans HC.out
      have HB1 := Lib_hid hb1
      clear hb1
      go_wp2_with fail
      refine (HWI.out k hk w1 (HB.out.1.trans (HB1.out.mono hXsz))).mono ?_
      rintro e w2 ⟨A2, c2, rfl, ho, hb2⟩
      obtain ⟨z1, hD⟩ := HD.out k w1 w2 A2 c2 rfl hk HE.out HB1.out ho hb2
      have q1 := cell_of_row _ _ 0 _ _ _ z1
      have f1 := frozen_of_row _ _ 0 _ _ z1
      have HDD := Lib_hid hD
      clear hb2 hD z1 ho
      generalize (l.set k false).length = n2 at *
      go_wp2
      have q2 := World.cell?_setCell_same' w2 ⟨w.heap.size + 1, 0, none⟩ (.slice A2 n2 c2) (by rw [q1]; rfl)
      exact bodyPost_ret (v := .tuple #[.agg #[.slice A2 n2 c2], .bool true]) (by simp [results, Tryd.results38, go_sem, q2]) rfl HDD.out
  · have e1 : remB l i = l := remB_old (hasB_no hi)
    have e2 : hasB l i = false := by rw [hasB_no hi]
    have HE := Lib_hid (And.intro e1 e2)
    rw [hasB_no hi] at HM
    clear same made hb y0 y1 hs hd hr hW hi hdl hle e1 e2 c0
    go_enter Tryd.func38, Tryd.ntmps38
    go_wp2_with fail
    rw [← HW.out]
    refine HM.out.mono ?_
    rintro e w1 ⟨rfl, hb1⟩
    obtain ⟨z0, z1, hD⟩ := HS.out w1 hb1 HE.out.1 HE.out.2
    have q0 := cell_of_row _ _ 0 _ _ _ z0
    have q1 := cell_of_row _ _ 0 _ _ _ z1
    have f1 := frozen_of_row _ _ 0 _ _ z1
    have HDD := Lib_hid hD
    clear hb1 hD z0 z1
    go_wp2
    have q2 := World.cell?_setCell_same' w1 ⟨w.heap.size + 1, 0, none⟩ (.slice A l.length c) (by rw [q1]; rfl)
    exact bodyPost_ret (v := .tuple #[.agg #[.slice A l.length c], .bool false]) (by simp [results, Tryd.results38, go_sem, q2]) rfl HDD.out

end Go.Proofs.YtiembenkdldklaaDoor
