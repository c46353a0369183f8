/-
  Layer 13: a node's edges, told in order (rows.told): a clone that the library sorts.
-/
import Derived.Test.YtopecdkkmbpnbaaGge
import Derived.Test.YtopecdkkmbpnbaaShs
import Derived.Shelf.SlSortCmp.NoneTotal
import Derived.Shelf.SlicesE.Clone
namespace Go.Proofs.Ytopecdkkmbpnbaa
open Go Go.RowKit Go.Maps Go.Sort Go.Shelf
set_option linter.unusedVariables false

theorem ltOf_cmpE (a b : Ed) : ltOf cmpE a b = decide (ltE a b) := by
  unfold ltOf
  rw [Bool.eq_iff_iff]
  simp only [decide_eq_true_eq]
  exact cmpE_neg
theorem swo_cmpE : SWO (ltOf cmpE) where
  irrefl x := by rw [ltOf_cmpE]; exact decide_eq_false (ltE_irrefl x)
  trans x y z h1 h2 := by rw [ltOf_cmpE] at *; simp only [decide_eq_true_eq] at *; exact ltE_trans h1 h2
  ntrans x y z h1 h2 := by
    rw [ltOf_cmpE] at *
    simp only [decide_eq_false_iff_not] at *
    intro h3
    by_cases h4 : ltE y x
    · exact h2 (ltE_trans h4 h3)
    · have := ltE_total h1 h4
      subst this
      exact h2 h3
theorem tot_cmpE (x y : Ed) (h1 : ltOf cmpE x y = false) (h2 : ltOf cmpE y x = false) : x = y := by
  rw [ltOf_cmpE] at *
  simp only [decide_eq_false_iff_not] at *
  exact ltE_total h1 h2
theorem sorted_eq (l : List Ed) : (l.mergeSort fun x y => !(ltOf cmpE) y x) = srtE l := by
  unfold srtE
  congr 1
  funext x y
  rw [ltOf_cmpE]

theorem flat_ec (d : Array Ed) : flatK eC 3 d = (ec d.toList).toArray := by
  apply Array.ext
  · simp [ec_length]
  · intro t h1 h2
    have ht : t < d.size * 3 := by simpa using h1
    have hi : t / 3 < d.size := by omega
    have h3 := ec_get d.toList (t / 3) (t % 3) d[t / 3] (by simp [hi]) (by omega)
    rw [show t / 3 * 3 + t % 3 = t by omega] at h3
    have h4 := get_flatK eC 3 d t ht
    rw [getElem!_pos (flatK eC 3 d) t h1, getElem!_pos d (t / 3) hi] at h4
    rw [h4]
    have h5 : t % 3 < (eC d[t / 3]).length := by show t % 3 < 3; omega
    rw [getElem!_pos (eC d[t / 3]) (t % 3) h5]
    rw [List.getElem?_eq_getElem h5] at h3
    have h6 : t < (ec d.toList).length := by rw [ec_length]; simpa using ht
    rw [List.getElem?_eq_getElem h6] at h3
    simpa using (Option.some.inj h3).symm

theorem holds_ec {w : World} {base g n c : Nat} {e : TypeId} {l : List Ed} (h : w.ownsRow base e 3 (.slice (some ⟨g, 0, none⟩) n c) n (ec l)) : HoldsK eC 3 w g 0 l.toArray := by
  intro j hj
  have hl := h.1
  rw [ec_length] at hl
  rw [flat_ec] at hj ⊢
  simp only [List.size_toArray] at hj
  have hj' : j < (ec l).length := hj
  refine ⟨?_, h.frozenAt _⟩
  rw [Nat.zero_add, h.cellAt _ (by rw [ec_length] at hj'; omega), List.getElem?_eq_getElem hj', getElem!_pos (ec l).toArray j (by simpa using hj')]
  simp

theorem sortE_block (w : World) (g q : Nat) (d : Array Ed) (os : Array Obj) {k : Nat} (hk : k < w.heap.size) (hne : k ≠ g) : (sortWorldK eC 3 w g 0 q d os).heap[k]? = w.heap[k]? := by
  unfold sortWorldK
  rw [heap_grow_old _ _ (by simpa [putRowK] using hk)]
  simp only [putRowK, putRow, mapBlock, Array.getElem?_modify]
  rw [if_neg (fun e => hne e.symm)]
  rfl
theorem sortE_below {B : Nat} (w : World) (g q : Nat) (d : Array Ed) (os : Array Obj) (hB : B ≤ w.heap.size) (hg : B ≤ g) : RowKit.Below B w (sortWorldK eC 3 w g 0 q d os) :=
  ⟨rfl, rfl, rfl, by unfold sortWorldK; rw [size_grow]; simp [putRowK], fun k hk => sortE_block w g q d os (by omega) (by omega)⟩
/-- What the sort leaves of a row of edges. -/
theorem own_sortE {w : World} {base g n c : Nat} {e : TypeId} {xs : List Value} (h : w.ownsRow base e 3 (.slice (some ⟨g, 0, none⟩) n c) n xs) (d : Array Ed) (hd : d.size = n) (q : Nat) (os : Array Obj) :
    (sortWorldK eC 3 w g 0 q d os).ownsRow base e 3 (.slice (some ⟨g, 0, none⟩) n c) n (ec d.toList) := by
  rcases h.2 with ⟨h', _⟩ | ⟨g', cap', cur, h', hb, hg, hnc, hcm, hcs, htake⟩
  · simp at h'
  · simp only [Value.slice.injEq, Option.some.injEq, Addr.mk.injEq, and_true, true_and] at h'
    obtain ⟨rfl, rfl⟩ := h'
    have hlt : g < w.heap.size := (Array.getElem?_eq_some_iff.1 hg).1
    have hlen : (ec d.toList).length = n * 3 := by rw [ec_length]; simp [hd]
    refine ⟨hlen, .inr ⟨g, c, putCells id 0 (flatK eC 3 d) cur, rfl, hb, ?_, hnc, hcm, by simp [putCells, hcs], ?_⟩⟩
    · unfold sortWorldK
      rw [heap_grow_old _ _ (by simpa [putRowK] using hlt)]
      simp [putRowK, putRow, mapBlock, Array.getElem?_modify, hg, onCells]
    · apply List.ext_getElem?
      intro i
      rw [List.getElem?_take]
      by_cases hi : i < n * 3
      · have hi' : i < cur.size := by omega
        have hid : i < (ec d.toList).length := by omega
        rw [if_pos hi, flat_ec]
        simp [putCells, hi', hid]
      · rw [if_neg hi, List.getElem?_eq_none (by omega)]

/-- What the sort wants of the order. -/
theorem cmp_lays (blk n : Nat) (w : World) : CmpLays Try.prog 28 #[] eC 3 cmpE blk 0 n w :=
  fun _ _ _ _ x y => pcmp_any x y _
theorem cmp_enters : ∀ args wx, (callFunc 28 args).run Try.prog wx = .ok (.enter 28 args) wx := enters_of Try.func28 (by kernel_rfl) rfl
theorem aggE : ∀ w, (isAgg 39).run Try.prog w = .ok true w := fun w => by kernel_rfl
theorem sizE : ∀ w, (Go.sizeOf 39).run Try.prog w = .ok 3 w := fun w => by kernel_rfl

/-- The library's sort of a row of edges that the call owns. -/
theorem sort_any {w : World} {base n c : Nat} {A : Option Addr} {l : List Ed} (h : w.ownsRow base 39 3 (.slice A n c) n (ec l)) (hn : n ≤ 1000000000) :
    Calls Try.prog 55 #[.slice A n c, .func (.func 28) #[] #[]] w fun r w' => r = .returned (.tuple #[]) ∧ w'.ownsRow base 39 3 (.slice A n c) n (ec (srtE l)) ∧ Below base w w' ∧ (∀ k, k < w.heap.size → ob A ≠ some k → w'.heap[k]? = w.heap[k]?) := by
  have hl : l.length = n := by have := h.1; rw [ec_length] at this; omega
  rcases Nat.eq_zero_or_pos n with h0 | h0
  · subst h0
    have hnil : l = [] := List.eq_nil_of_length_eq_zero hl
    have S := AnyF.slices_SortFunc_none (P := Try.prog) (ρ := Try.sortE_ren) Try.sortE A c (.func (.func 28) #[] #[]) w
    change Calls Try.prog 55 _ _ _ at S
    refine S.mono ?_
    rintro r w' ⟨rfl, rfl⟩
    subst hnil
    exact ⟨rfl, by rw [show srtE [] = [] by simp [srtE]]; exact h, Below.refl _ _, fun _ _ _ => rfl⟩
  · obtain ⟨g, cap, hv⟩ := Joins.ownsRow_form h h0
    simp only [Value.slice.injEq] at hv
    obtain ⟨rfl, _, rfl⟩ := hv
    have hg := h.lt g rfl
    have S := AnyQ.slices_SortFunc_total Try.sortE 3 aggE sizE eC (fun _ => rfl) (fun x v hv => by simp [eC] at hv; rcases hv with rfl | rfl | rfl <;> rfl) cmpE swo_cmpE 28 #[] g 0 c l.toArray w cmp_enters (cmp_lays _ _ _) (holds_ec h) hg.2 (by simp; omega) tot_cmpE
    rw [show l.toArray.size = n from hl, show (l.toArray.toList.mergeSort fun x y => !(ltOf cmpE) y x) = srtE l from sorted_eq l] at S
    change Calls Try.prog 55 _ _ _ at S
    refine S.mono ?_
    rintro r w' ⟨rfl, q, os, rfl⟩
    have h2 := own_sortE h (srtE l).toArray (by simp [len_srtE, hl]) q os
    exact ⟨rfl, h2, sortE_below w g q _ os (by omega) hg.1, fun k hk hne => sortE_block w g q _ os hk (fun e => hne (by rw [e]; rfl))⟩

/-- The library's clone of a row of edges. -/
theorem clone_any {w : World} {B n c : Nat} {A : Option Addr} {l : List Ed} (h : w.ownsRow B 39 3 (.slice A n c) n (ec l)) (hn : n ≤ 1000000000) :
    Calls Try.prog 60 #[.slice A n c] w (MadeC 39 3 n (ec l) w) := by
  obtain ⟨i0, hi, hz0, hz1, hz2⟩ := info_parts Try.infoE
  rcases h.2 with ⟨h', h0⟩ | ⟨g, cap, cur, h', _, hg, hnc, hcm, _⟩
  · simp only [Value.slice.injEq] at h'
    obtain ⟨rfl, rfl, rfl⟩ := h'
    have S := AnyE.slices_Clone_nil Try.cloneE 0 0 w
    change Calls Try.prog 60 _ _ _ at S
    refine S.mono ?_
    rintro r w' ⟨rfl, rfl⟩
    have hl : l = [] := List.eq_nil_of_length_eq_zero (by have := h.1; rw [ec_length] at this; omega)
    subst hl
    exact ⟨none, 0, rfl, own_zero _ _ _ _, Below.refl _ _⟩
  · simp only [Value.slice.injEq] at h'
    obtain ⟨rfl, _, rfl⟩ := h'
    have S := AnyE.slices_Clone Try.cloneE i0 (.agg #[.int .i64 0, .int .i64 0, .int .i64 0]) 3 24 hi hz0 hz1 hz2 rfl (by decide) sizE g 0 n c (ec l) w h.1 (by unfold maxLen; omega) (by omega) (fun j u hu => by have := h.cells (g := g) rfl j u hu; rw [add_plain] at this; exact this) (ec_one l)
    change Calls Try.prog 60 _ _ _ at S
    refine S.mono ?_
    rintro r w' ⟨v', rfl, ho, _, hb⟩
    obtain ⟨A', c', rfl⟩ := own_form' ho
    exact ⟨A', c', rfl, ho, hb⟩

set_option maxRecDepth 100000 in
set_option maxHeartbeats 800000 in
theorem told_any {w : World} {N g c n : Nat} {S : Nat → Sl2} {R : Nat → List Ed} {tg : Nat → Nat} (h : Half w N g S R tg c) (hn : n < N) (hN : N ≤ 65536) (hl : (R n).length ≤ 1000000000) :
    Calls Try.prog 54 #[.slice (some ⟨g, 0, none⟩) N N, .int .i64 (n : Int)] w (MadeC 39 3 (R n).length (ec (srtE (R n))) w) := by
  have c0 := h.cell hn
  unfold sv at c0
  have CL := Lib_hid (clone_any (h.row n hn) hl)
  have hnI : (n : Int) < (N : Int) := by omega
  have hn0 : (0 : Int) ≤ (n : Int) := by omega
  have HL := Lib_hid hl
  clear h hl
  generalize hk : (R n).length = k at *
  have HK := Lib_hid hk
  clear hk
  go_enter Try.func54, Try.ntmps54
  go_wp2_with fail
  refine CL.out.mono ?_
  rintro r w1 ⟨A, c1, rfl, ho, hb⟩
  have SO := Lib_hid (sort_any ho HL.out)
  have HB := Lib_hid hb
  clear ho hb c0
  go_wp2_with fail
  refine SO.out.mono ?_
  rintro r w2 ⟨rfl, ho2, hb2, _⟩
  have HE := Lib_hid (And.intro ho2 (HB.out.trans hb2))
  clear ho2 hb2
  go_wp2
  go_ret
  exact ⟨A, c1, rfl, HE.out.1, HE.out.2⟩

end Go.Proofs.Ytopecdkkmbpnbaa
