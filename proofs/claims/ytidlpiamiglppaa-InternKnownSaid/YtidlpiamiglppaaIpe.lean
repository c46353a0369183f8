/-
  Layer 7: tables of pairs: the calls; the statement's own rows of pairs.
-/
import Derived.Test.YtidlpiamiglppaaIpd
import Derived.Test.YtidlpiamiglppaaItc
namespace Go.Proofs.Ytidlpiamiglppaa
open Go Go.RowKit Go.Maps
set_option linter.unusedVariables false

section
variable {w : World} {p c : Nat} {A : Option Addr} {m : Option Nat} {l : List PP}

set_option maxRecDepth 100000 in
theorem pname_any (h : Tab kP w p A c m l) (k : Int) :
    Calls Try.prog 43 #[.pointer (some ⟨p, 0, none⟩), .int .i64 k] w fun e w' => e = .returned (.tuple #[pv (nameP l k).1, .int .i64 (nameP l k).2]) ∧ Below w.heap.size w w' := by
  have c0 := h.c0
  have hcap := h.cap
  have hpl := h.lt p (.inl rfl)
  have hb1 := below_new w (.cells #[.int .u64 0, .int .u64 0] 59)
  by_cases hk : 0 ≤ k ∧ k < l.length
  · obtain ⟨j, rfl⟩ : ∃ j : Nat, k = j := ⟨k.toNat, by omega⟩
    have hj : j < l.length := by omega
    obtain ⟨b, off, rfl, hb, c2, c3⟩ := p_at (show Rd w w.heap.size 2 A l.length (pc l) from h.rd) hj
    have e : nameP l (j : Int) = (at0 l j, 0) := by unfold nameP; rw [if_pos hk]; rfl
    rw [e]
    unfold pv
    have d1 : decide ((j : Int) < 0) = false := decide_eq_false (by omega)
    have d2 : decide ((l.length : Int) ≤ (j : Int)) = false := decide_eq_false (by omega)
    clear e h hk
    generalize ((at0 l j).1 : Int) = x1 at *
    generalize ((at0 l j).2 : Int) = x2 at *
    generalize l.length = n at *
    have hbz := below_new w (.cells #[.int .u64 x1, .int .u64 x2] 59)
    go_enter Try.func43, Try.ntmps43
    go_wp2
    exact bodyPost_ret (v := .tuple #[.agg #[.int .u64 x1, .int .u64 x2], .int .i64 0]) (by simp [results, Try.results43, go_sem]) rfl ⟨rfl, hbz⟩
  · have e : nameP l k = ((0, 0), 70) := by unfold nameP; rw [if_neg hk]
    rw [e]
    clear h e
    unfold pv
    by_cases h1 : k < 0
    · have d1 : decide (k < 0) = true := decide_eq_true h1
      clear hk
      have hbz := hb1.alloc hb1.size (.cells #[.int .u64 0, .int .u64 0] 59)
      go_enter Try.func43, Try.ntmps43
      go_wp2
      exact bodyPost_ret (v := .tuple #[.agg #[.int .u64 0, .int .u64 0], .int .i64 70]) (by simp [results, Try.results43, go_sem]) rfl ⟨rfl, hbz⟩
    · have d1 : decide (k < 0) = false := decide_eq_false h1
      have d2 : decide ((l.length : Int) ≤ k) = true := decide_eq_true (by omega)
      clear hk
      generalize l.length = n at *
      have hbz := hb1.alloc hb1.size (.cells #[.int .u64 0, .int .u64 0] 59)
      go_enter Try.func43, Try.ntmps43
      go_wp2
      exact bodyPost_ret (v := .tuple #[.agg #[.int .u64 0, .int .u64 0], .int .i64 70]) (by simp [results, Try.results43, go_sem]) rfl ⟨rfl, hbz⟩

set_option maxRecDepth 100000 in
theorem qadd_any {n c' : Nat} {A' : Option Addr} {xs : List PP} (h : Tab kP w p A c m l) (hr : Rs w (Own p A m) 2 A' n (pc xs)) (hx : ∀ q ∈ xs, U64 q) (hl : l.length + n ≤ 1000000000) :
    Calls Try.prog 26 #[.pointer (some ⟨p, 0, none⟩), .slice A' n c'] w (AddEnd kP l xs (Own p A m) p w) := by
  have F := padd_any (c' := c') h hr hx hl
  clear hr
  generalize hS : Own p A m = S at *
  have HS := Lib_hid hS
  clear hS
  go_enter Try.func26, Try.ntmps26
  go_wp2_with fail
  refine F.mono ?_
  rintro e w1 ⟨rfl, ht⟩
  have HT := Lib_hid ht
  clear ht F
  go_wp2
  go_ret
  exact ⟨rfl, HT.out⟩

set_option maxRecDepth 100000 in
theorem qrising_any (h : Tab kP w p A c m l) (hl : l.length ≤ 1000000000) :
    Calls Try.prog 28 #[.pointer (some ⟨p, 0, none⟩)] w (IntsEnd (IsRising l) l.length w) := by
  have F := prising_any h hl
  clear h
  go_enter Try.func28, Try.ntmps28
  go_wp2_with fail
  refine F.mono ?_
  rintro e w1 ⟨A1, c1, s, hs, rfl, ho, hb⟩
  have HO := Lib_hid (And.intro hs (And.intro ho hb))
  clear F ho hb hs
  go_wp2
  go_ret
  exact ⟨A1, c1, s, HO.out.1, rfl, HO.out.2.1, HO.out.2.2⟩

set_option maxRecDepth 100000 in
theorem qlen_any (h : Tab kP w p A c m l) :
    Calls Try.prog 27 #[.pointer (some ⟨p, 0, none⟩)] w fun e w' => e = .returned (.int .i64 (l.length : Int)) ∧ w = w' := by
  have c0 := h.c0
  clear h
  go_enter Try.func27, Try.ntmps27
  go_wp2
  go_ret
  exact ⟨rfl, rfl⟩

set_option maxRecDepth 100000 in
theorem qfind_any (h : Tab kP w p A c m l) {q : PP} (hq : U64 q) :
    Calls Try.prog 29 #[.pointer (some ⟨p, 0, none⟩), pv q] w fun e w' => e = .returned (.tuple #[.int .i64 (numP l q : Int), .bool (hasP l q)]) ∧ Below w.heap.size w w' := by
  have hb1 := below_new w (.cells #[.int .u64 (q.1 : Int), .int .u64 (q.2 : Int)] 59)
  have hbx := heap_alloc_new w (.cells #[.int .u64 (q.1 : Int), .int .u64 (q.2 : Int)] 59)
  have hs1 : (w.alloc (.cells #[.int .u64 (q.1 : Int), .int .u64 (q.2 : Int)] 59)).heap.size = w.heap.size + 1 := by simp
  have HF : Hid (∀ W, Below w.heap.size w W → Calls Try.prog 42 #[.pointer (some ⟨p, 0, none⟩), .agg #[.int .u64 (q.1 : Int), .int .u64 (q.2 : Int)]] W fun e w' => e = .returned (.tuple #[.int .i64 (numP l q : Int), .bool (hasP l q)]) ∧ Below W.heap.size W w') := fun W hW => pfind_any (h.below hW h.lt) hq
  unfold pv
  clear h
  generalize numP l q = x at *
  generalize hasP l q = y at *
  generalize (q.1 : Int) = x1 at *
  generalize (q.2 : Int) = x2 at *
  go_enter Try.func29, Try.ntmps29
  go_wp2
  generalize w.alloc (.cells #[.int .u64 x1, .int .u64 x2] 59) = W at *
  have KS : Hid (∀ V, Below W.heap.size W V → V.cell? ⟨w.heap.size, 0, none⟩ = some (.int .u64 x1) ∧ V.cell? ⟨w.heap.size, 1, none⟩ = some (.int .u64 x2)) := fun V hV =>
    have hh := (hV.block w.heap.size (by omega)).trans hbx
    ⟨cell_of_row _ _ 0 _ _ _ hh, cell_of_row _ _ 1 _ _ _ hh⟩
  have b0 := below_drew1 W
  have HB := Lib_hid hb1
  have hbd : Hid (Below w.heap.size w W.drew) := hb1.trans (b0.mono hb1.size)
  clear hb1 hbx hs1
  go_region_held3 (fun V => V.cell? ⟨w.heap.size, 0, none⟩ = some (.int .u64 x1) ∧ V.cell? ⟨w.heap.size, 1, none⟩ = some (.int .u64 x2))
    (first | exact KS.out _ b0 | exact KS.out _ (Below.refl _ _) | exact KS.out _ hbs)
    ((first | (go_at_call 42; ((with_reducible refine (HF.out _ (by exact hbd.out)).mono ?_); rintro e ws ⟨rfl, hb2⟩; have hbs := b0.trans (hb2.mono b0.size)))))
  all_goals
    have hbf := Lib_hid (HB.out.trans (hbs.mono HB.out.size))
    clear hb2 hbs
    go_wp2
    go_ret2
    exact ⟨rfl, hbf.out⟩

set_option maxRecDepth 100000 in
theorem qname_any (h : Tab kP w p A c m l) (k : Int) :
    Calls Try.prog 30 #[.pointer (some ⟨p, 0, none⟩), .int .i64 k] w fun e w' => e = .returned (.tuple #[pv (nameP l k).1, .int .i64 (nameP l k).2]) ∧ Below w.heap.size w w' := by
  have hb1 := below_new w (.cells #[.int .u64 0, .int .u64 0] 59)
  have hbx := heap_alloc_new w (.cells #[.int .u64 0, .int .u64 0] 59)
  have hs1 : (w.alloc (.cells #[.int .u64 0, .int .u64 0] 59)).heap.size = w.heap.size + 1 := by simp
  have F := pname_any (h.below hb1 h.lt) k
  unfold pv at F
  unfold pv
  have HB := Lib_hid (And.intro hb1 (And.intro hbx hs1))
  clear h hb1 hbx hs1
  generalize ((nameP l k).1.1 : Int) = x1 at *
  generalize ((nameP l k).1.2 : Int) = x2 at *
  generalize (nameP l k).2 = z at *
  go_enter Try.func30, Try.ntmps30
  go_wp2_with fail
  refine F.mono ?_
  rintro e w1 ⟨rfl, hb2⟩
  have hbx2 := (hb2.block w.heap.size (by have := HB.out.2.2; omega)).trans HB.out.2.1
  have g0 := cell_of_row w1 w.heap.size 0 _ _ _ hbx2
  have g1 := cell_of_row w1 w.heap.size 1 _ _ _ hbx2
  have z0 := frozen_of_row w1 w.heap.size 0 _ _ hbx2
  have z1 := frozen_of_row w1 w.heap.size 1 _ _ hbx2
  simp at g0 g1
  have hgl : w.heap.size < w1.heap.size := (Array.getElem?_eq_some_iff.1 hbx2).1
  have hbf := Lib_hid (HB.out.1.trans (hb2.mono HB.out.1.size))
  have f0 : ((w1.setCell ⟨w.heap.size, 0, none⟩ (.int .u64 x1)).setCell ⟨w.heap.size, 1, none⟩ (.int .u64 x2)).cell? ⟨w.heap.size, 0, none⟩ = some (.int .u64 x1) := (World.cell?_setCell_other _ _ _ _ (by simp)).trans (World.cell?_setCell_same _ _ _ g0)
  have f1 : ((w1.setCell ⟨w.heap.size, 0, none⟩ (.int .u64 x1)).setCell ⟨w.heap.size, 1, none⟩ (.int .u64 x2)).cell? ⟨w.heap.size, 1, none⟩ = some (.int .u64 x2) := World.cell?_setCell_same _ _ _ ((World.cell?_setCell_other _ _ _ _ (by simp)).trans g1)
  have hbz : Hid (Below w.heap.size w ((w1.setCell ⟨w.heap.size, 0, none⟩ (.int .u64 x1)).setCell ⟨w.heap.size, 1, none⟩ (.int .u64 x2))) := put2_below hbf.out w.heap.size (Nat.le_refl _) (by omega) _ _
  have HF := Lib_hid (And.intro f0 f1)
  clear F hb2 hbx2 f0 f1 HB hbf
  go_wp2
  generalize (w1.setCell ⟨w.heap.size, 0, none⟩ (.int .u64 x1)).setCell ⟨w.heap.size, 1, none⟩ (.int .u64 x2) = WF at *
  have f0 := HF.out.1
  have f1 := HF.out.2
  exact bodyPost_ret (v := .tuple #[.agg #[.int .u64 x1, .int .u64 x2], .int .i64 z]) (by simp [results, Try.results30, go_sem, f0, f1]) rfl ⟨rfl, hbz.out⟩
end

end Go.Proofs.Ytidlpiamiglppaa
