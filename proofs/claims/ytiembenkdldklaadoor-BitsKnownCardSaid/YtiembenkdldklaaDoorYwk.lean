/-
  Layer 8: the chapter's examples (works).
-/
import Derived.Test.YtiembenkdldklaaDoorYz
namespace Go.Proofs.YtiembenkdldklaaDoor
open Go Go.RowKit
set_option linter.unusedVariables false

theorem oth_one {w : World} {lo hi p q lo' hi' : Nat} {l m : List Bool} (hz : BZ w lo' hi' q m) (hd : hi' ≤ lo ∨ hi ≤ lo') : OthL w lo hi p l [pv q] [m] :=
  ⟨rfl, fun j hj => by
    obtain rfl : j = 0 := by simpa using hj
    exact ⟨pv q, rfl, .inr (.inr ⟨q, lo', hi', rfl, hz, hd⟩)⟩⟩
theorem lit_vs (w : World) (vs : List Value) (T : TypeId) : Rd (w.alloc (.cells vs.toArray T)) (w.heap.size + 1) 1 (some ⟨w.heap.size, 0, none⟩) vs.length vs := by
  refine ⟨by omega, fun h0 => ⟨_, rfl, by simp, fun j u hu => ?_⟩⟩
  rw [add_plain, Nat.zero_add, cell_of_row _ _ j _ _ _ (heap_alloc_new w _)]
  simpa using hu
theorem Ws.all_rd {X Y : World} {e : Ending} {xs : List Nat} (h : IcEnd xs X e Y) : ∃ A c, e = .returned (.slice A xs.length c) ∧ Rd Y Y.heap.size 1 A xs.length (iz (xs.map fun (n : Nat) => (n : Int))) ∧ Below X.heap.size X Y := by
  obtain ⟨A, c, e1, ho, hb⟩ := h
  exact ⟨A, c, e1, by rw [← ic_iz]; exact Rd.own ho, hb⟩

set_option maxRecDepth 100000 in
set_option maxHeartbeats 4000000 in
theorem works_any (w : World) (hT : BTab w) : Calls Tryd.prog 9 #[] w fun e w' => e = .returned (.bool true) ∧ Below w.heap.size w w' := by
  obtain ⟨f1, f2, f3, f4, f5, f6, f7, f8, f9, f10, f11, f12, f13⟩ := ex_facts
  have hc70 : clampN 70 = 70 := by decide
  have hc100 : clampN 100 = 100 := by decide
  have F0 : Hid (∀ W : World, Below W.heap.size W (W.alloc (.cells #[.int .i64 3, .int .i64 69, .int .i64 70, .int .i64 (-1), .int .i64 3] 3)) → Calls Tryd.prog 14 #[.int .i64 70, .slice (some ⟨W.heap.size, 0, none⟩) 5 5] (W.alloc (.cells #[.int .i64 3, .int .i64 69, .int .i64 70, .int .i64 (-1), .int .i64 3] 3)) (NEnd exA (W.alloc (.cells #[.int .i64 3, .int .i64 69, .int .i64 70, .int .i64 (-1), .int .i64 3] 3)))) := fun W _ => by
    have := pof_any (W.heap.size + 1) 5 5 70 _ [3, 69, 70, -1, 3] _ (lit_rd W [3, 69, 70, -1, 3] 3) (by simp) (by decide)
    rw [hc70] at this
    exact this
  have F9 : Hid (∀ W : World, Calls Tryd.prog 14 #[.int .i64 100, .slice (some ⟨W.heap.size, 0, none⟩) 3 3] (W.alloc (.cells #[.int .i64 64, .int .i64 5, .int .i64 99] 3)) (NEnd exD (W.alloc (.cells #[.int .i64 64, .int .i64 5, .int .i64 99] 3)))) := fun W => by
    have := pof_any (W.heap.size + 1) 3 3 100 _ [64, 5, 99] _ (lit_rd W [64, 5, 99] 3) (by simp) (by decide)
    rw [hc100] at this
    exact this
  have NX1 : Hid (∀ lo hi p W, BZ W lo hi p exA → BTab W → Calls Tryd.prog 28 #[pv p, .int .i64 4] W fun e w' => e = .returned (.tuple #[.int .i64 69, .bool true]) ∧ Below W.heap.size W w') := fun lo hi p W hz ht => by
    have := pnext_any lo hi p exA 4 W hz ht (by decide)
    unfold nextV at this
    rw [f2] at this
    exact this
  have NX2 : Hid (∀ lo hi p W, BZ W lo hi p exA → BTab W → Calls Tryd.prog 28 #[pv p, .int .i64 70] W fun e w' => e = .returned (.tuple #[.int .i64 0, .bool false]) ∧ Below W.heap.size W w') := fun lo hi p W hz ht => by
    have := pnext_any lo hi p exA 70 W hz ht (by decide)
    unfold nextV at this
    rw [f3] at this
    exact this
  have LE1 : Hid (∀ lo hi p W, BZ W lo hi p exA → Calls Tryd.prog 13 #[pv p] W fun e w' => e = .returned (.int .i64 2) ∧ Below W.heap.size W w') := fun lo hi p W hz => by
    have := plen_any lo hi p exA W hz
    rw [f1] at this
    exact this
  have AL1 : Hid (∀ lo hi p W, BZ W lo hi p exA → BTab W → Calls Tryd.prog 30 #[pv p] W (IcEnd [3, 69] W)) := fun lo hi p W hz ht => by
    have := pall_any lo hi p exA W hz ht
    rw [f1] at this
    exact this
  have AL2 : Hid (∀ lo hi p W, BZ W lo hi p exE → BTab W → Calls Tryd.prog 30 #[pv p] W (IcEnd [5, 64, 69] W)) := fun lo hi p W hz ht => by
    have := pall_any lo hi p exE W hz ht
    rw [f13] at this
    exact this
  have AD1 : Hid (∀ lo hi p W, BZ W lo hi p exA → Calls Tryd.prog 12 #[pv p, .int .i64 3] W (PSt lo hi p exA false W)) := fun lo hi p W hz => by
    have := padd_any lo hi p exA 3 W hz
    rw [f4, f5] at this
    exact this
  have AD2 : Hid (∀ lo hi p W, BZ W lo hi p exA → Calls Tryd.prog 12 #[pv p, .int .i64 64] W (PSt lo hi p exB true W)) := fun lo hi p W hz => by
    have := padd_any lo hi p exA 64 W hz
    rw [f6] at this
    exact this
  have AD3 : Hid (∀ lo hi p W, BZ W lo hi p exB → Calls Tryd.prog 12 #[pv p, .int .i64 70] W (PSt lo hi p exB false W)) := fun lo hi p W hz => by
    have := padd_any lo hi p exB 70 W hz
    rw [f7, f8] at this
    exact this
  have RE1 : Hid (∀ lo hi p W, BZ W lo hi p exB → Calls Tryd.prog 29 #[pv p, .int .i64 3] W (PSt lo hi p exC true W)) := fun lo hi p W hz => by
    have := prem_any lo hi p exB 3 W hz
    rw [f9] at this
    exact this
  have RE2 : Hid (∀ lo hi p W, BZ W lo hi p exC → Calls Tryd.prog 29 #[pv p, .int .i64 3] W (PSt lo hi p exC false W)) := fun lo hi p W hz => by
    have := prem_any lo hi p exC 3 W hz
    rw [f10, f11] at this
    exact this
  have JO : Hid (∀ lo hi p lo' hi' q W, BZ W lo hi p exC → hi ≤ W.heap.size → BZ W lo' hi' q exD → hi ≤ lo' → hi' ≤ W.heap.size → Calls Tryd.prog 24 #[pv p, .slice (some ⟨W.heap.size, 0, none⟩) 1 1] (W.alloc (.cells #[pv q] 26)) fun e w' => e = .returned (.int .i64 1) ∧ BZ w' lo hi p exE ∧ Turns (fun k => lo ≤ k ∧ k < hi) (W.alloc (.cells #[pv q] 26)) w') := fun lo hi p lo' hi' q W hz hh hq hd hh' => by
    have hb := below_new W (.cells #[pv q] 26)
    have := pjoin_any lo hi p 1 1 (some ⟨W.heap.size, 0, none⟩) exC [pv q] [exD] _ (hz.below hb hh) (by simp; omega) ((lit_vs W [pv q] 26).more (by simp)) (oth_one (hq.below hb hh') (.inr hd)) (by decide) (by decide) (fun ad e => .inl (by injection e with e; rw [← e]; exact hh))
    unfold ChEnd at this
    rw [f12] at this
    exact this
  have HTT := Lib_hid hT
  clear f1 f2 f3 f4 f5 f6 f7 f8 f9 f10 f11 f12 f13 hc70 hc100 hT
  go_enter Tryd.func9, Tryd.ntmps9
  go_wp2_with fail
  refine (F0.out w (below_new _ _)).mono ?_
  intro e w1 hN
  obtain ⟨p, rfl, hw1, _⟩ := hN.ws (w := w) (below_new _ _)
  generalize (w.alloc (.cells #[.int .i64 3, .int .i64 69, .int .i64 70, .int .i64 (-1), .int .i64 3] 3)).heap.size = lo at *
  generalize w1.heap.size = hi at *
  have HW := Lib_hid hw1
  clear hw1 hN
  go_wp2_with fail
  refine (NX1.out _ _ _ _ HW.out.z (HW.out.tab HTT.out)).mono ?_
  rintro e w2 ⟨rfl, hb⟩
  replace HW := Lib_hid (HW.out.below hb)
  clear hb
  go_wp2_with fail
  refine (NX2.out _ _ _ _ HW.out.z (HW.out.tab HTT.out)).mono ?_
  rintro e w3 ⟨rfl, hb⟩
  replace HW := Lib_hid (HW.out.below hb)
  clear hb
  go_wp2_with fail
  refine (LE1.out _ _ _ _ HW.out.z).mono ?_
  rintro e w4 ⟨rfl, hb⟩
  replace HW := Lib_hid (HW.out.below hb)
  clear hb
  go_wp2_with fail
  refine (AL1.out _ _ _ _ HW.out.z (HW.out.tab HTT.out)).mono ?_
  intro e w5 hI
  obtain ⟨A2, c2, rfl, hr, hb⟩ := Ws.all_rd hI
  simp only [List.length_cons, List.length_nil, Nat.zero_add, Nat.reduceAdd, List.map_cons, List.map_nil] at hr ⊢
  have hr2 := hr.below (below_new w5 (.cells #[.int .i64 3, .int .i64 69] 3))
  have hl2 := lit_rd w5 [3, 69] 3
  replace HW := Lib_hid ((HW.out.below hb).alloc (.cells #[.int .i64 3, .int .i64 69] 3))
  have HR := Lib_hid (And.intro hr2 hl2)
  clear hb hI hr hr2 hl2
  go_wp2_with fail
  refine (sints_any _ _ _ _ _ _ _ _ [3, 69] _ HR.out.1 HR.out.2 (by decide)).mono ?_
  rintro e w6 ⟨rfl, q, rfl⟩
  replace HW := Lib_hid (HW.out.drewN q)
  clear HR
  generalize (w5.alloc (.cells #[.int .i64 3, .int .i64 69] 3)).drewN q = w6 at *
  go_wp2_with fail
  refine (AD1.out _ _ _ _ HW.out.z).mono ?_
  rintro e w7 ⟨rfl, hz, ht⟩
  replace HW := Lib_hid (HW.out.turn hz ht)
  clear hz ht
  go_wp2_with fail
  refine (AD2.out _ _ _ _ HW.out.z).mono ?_
  rintro e w8 ⟨rfl, hz, ht⟩
  replace HW := Lib_hid (HW.out.turn hz ht)
  clear hz ht
  go_wp2_with fail
  refine (AD3.out _ _ _ _ HW.out.z).mono ?_
  rintro e w9 ⟨rfl, hz, ht⟩
  replace HW := Lib_hid (HW.out.turn hz ht)
  clear hz ht
  go_wp2_with fail
  refine (RE1.out _ _ _ _ HW.out.z).mono ?_
  rintro e w10 ⟨rfl, hz, ht⟩
  replace HW := Lib_hid (HW.out.turn hz ht)
  clear hz ht
  go_wp2_with fail
  refine (RE2.out _ _ _ _ HW.out.z).mono ?_
  rintro e w11 ⟨rfl, hz, ht⟩
  replace HW := Lib_hid (HW.out.turn hz ht)
  clear hz ht
  go_wp2_with fail
  refine (F9.out w11).mono ?_
  intro e w12 hN
  obtain ⟨q, rfl, hw9, hb9⟩ := hN.ws (w := w) (HW.out.b.alloc HW.out.b.size _)
  have hw8 := (HW.out.alloc (.cells #[.int .i64 64, .int .i64 5, .int .i64 99] 3)).below hb9
  have hlt := HW.out.le
  simp only [World.size_alloc] at hw9
  have HJ := Lib_hid (JO.out _ _ _ _ _ _ _ hw8.z hw8.le hw9.z (by omega) hw9.le)
  replace HW := Lib_hid (hw8.alloc (.cells #[pv q] 26))
  clear hw8 hw9 hb9 hN hlt
  go_wp2_with fail
  refine HJ.out.mono ?_
  rintro e w13 ⟨rfl, hz, ht⟩
  replace HW := Lib_hid (HW.out.turn hz ht)
  clear hz ht HJ
  go_wp2_with fail
  refine (AL2.out _ _ _ _ HW.out.z (HW.out.tab HTT.out)).mono ?_
  intro e w14 hI
  obtain ⟨A2, c2, rfl, hr, hb⟩ := Ws.all_rd hI
  simp only [List.length_cons, List.length_nil, Nat.zero_add, Nat.reduceAdd, List.map_cons, List.map_nil] at hr ⊢
  have hr2 := hr.below (below_new w14 (.cells #[.int .i64 5, .int .i64 64, .int .i64 69] 3))
  have hl2 := lit_rd w14 [5, 64, 69] 3
  replace HW := Lib_hid ((HW.out.below hb).alloc (.cells #[.int .i64 5, .int .i64 64, .int .i64 69] 3))
  have HR := Lib_hid (And.intro hr2 hl2)
  clear hb hI hr hr2 hl2
  go_wp2_with fail
  refine (sints_any _ _ _ _ _ _ _ _ [5, 64, 69] _ HR.out.1 HR.out.2 (by decide)).mono ?_
  rintro e w15 ⟨rfl, q, rfl⟩
  replace HW := Lib_hid (HW.out.drewN q)
  clear HR
  generalize (w14.alloc (.cells #[.int .i64 5, .int .i64 64, .int .i64 69] 3)).drewN q = w15 at *
  have hfin := HW.out.b
  go_wp2
  go_ret
  exact ⟨rfl, hfin⟩

end Go.Proofs.YtiembenkdldklaaDoor
