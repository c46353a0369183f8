/-
  Layer 13: the document's New, Some, and Add of an edge that may not be.
-/
import Derived.Test.YtopecdkkmbpnbaaGoa
namespace Go.Proofs.Ytopecdkkmbpnbaa
open Go Go.RowKit Go.Maps
set_option linter.unusedVariables false

/-- A box of two, written whole. -/
theorem box2_write {w : World} {g : Nat} {T : TypeId} {z0 z1 : Value} (x1 x2 : Value) (hg : w.heap[g]? = some (.cells #[z0, z1] T (0, 0))) :
    ((w.setCell ⟨g, 0, none⟩ x1).setCell ⟨g, 1, none⟩ x2).heap[g]? = some (.cells #[x1, x2] T (0, 0)) ∧ (∀ k, k ≠ g → ((w.setCell ⟨g, 0, none⟩ x1).setCell ⟨g, 1, none⟩ x2).heap[k]? = w.heap[k]?) ∧ ((w.setCell ⟨g, 0, none⟩ x1).setCell ⟨g, 1, none⟩ x2).heap.size = w.heap.size ∧ ∀ (n : Nat) (w0 : World), Below n w0 w → n ≤ g → Below n w0 ((w.setCell ⟨g, 0, none⟩ x1).setCell ⟨g, 1, none⟩ x2) := by
  have z1' : (w.setCell ⟨g, 0, none⟩ x1).heap[g]? = some (.cells #[x1, z1] T (0, 0)) := by rw [heap_setCell_same _ g 0 _ _ _ hg]; rfl
  refine ⟨by rw [heap_setCell_same _ g 1 _ _ _ z1']; rfl, fun p hp => (heap_setCell_other _ ⟨g, 1, none⟩ p _ hp).trans (heap_setCell_other _ ⟨g, 0, none⟩ p _ hp), by simp, fun n w0 hb hn => ?_⟩
  exact (hb.setCell (p := ⟨g, 0, none⟩) hn _).setCell (p := ⟨g, 1, none⟩) hn _

/-- How the document's New ends. -/
def RnEnd (n : Int) (w : World) (r : Ending) (w' : World) : Prop :=
  (n < 0 ∨ 65536 < n) ∧ r = .returned (.tuple #[.agg #[.int .i64 0, .slice none 0 0], .int .i64 2]) ∧ Below w.heap.size w w' ∨
  (0 ≤ n ∧ n ≤ 65536) ∧ r = .returned (.tuple #[.agg #[.int .i64 n, .slice none 0 0], .int .i64 0]) ∧ Below w.heap.size w w'

set_option maxRecDepth 100000 in
theorem rnew_any (n : Int) (w : World) : Calls Try.prog 11 #[.int .i64 n] w (RnEnd n w) := by
  have bA := below_new w (.cells #[.int .i64 0, .slice none 0 0] 31)
  have xA := heap_alloc_new w (.cells #[.int .i64 0, .slice none 0 0] 31)
  obtain ⟨W, hW⟩ : ∃ W, W = w.alloc (.cells #[.int .i64 0, .slice none 0 0] 31) := ⟨_, rfl⟩
  rw [← hW] at bA xA
  by_cases h1 : n < 0
  · have d1 : decide (n < 0) = true := decide_eq_true h1
    go_enter Try.func11, Try.ntmps11
    go_upto_region 1 with (fail)
    rw [← hW]
    clear hW
    have f0 := frozen_of_row _ _ 0 _ _ xA
    have f1 := frozen_of_row _ _ 1 _ _ xA
    have y0 := cell_of_row _ _ 0 _ _ _ xA
    have y1 := cell_of_row _ _ 1 _ _ _ xA
    obtain ⟨zf, -, -, hB⟩ := box2_write (.int .i64 0) (.slice none 0 0) xA
    have hB2 := hB _ _ bA (Nat.le_refl _)
    go_wp2
    clear y0 y1 f0 f1 hB xA
    generalize (W.setCell ⟨w.heap.size, 0, none⟩ (.int .i64 0)).setCell ⟨w.heap.size, 1, none⟩ (.slice none 0 0) = U at *
    have q0 := cell_of_row _ _ 0 _ _ _ zf
    have q1 := cell_of_row _ _ 1 _ _ _ zf
    exact bodyPost_ret (v := .tuple #[.agg #[.int .i64 0, .slice none 0 0], .int .i64 2]) (by simp [results, Try.results11, go_sem, q0, q1]) rfl (.inl ⟨.inl h1, rfl, hB2⟩)
  have d1 : decide (n < 0) = false := decide_eq_false h1
  by_cases h2 : 65536 < n
  · have d2 : decide (65536 < n) = true := decide_eq_true h2
    go_enter Try.func11, Try.ntmps11
    go_upto_region 1 with (fail)
    rw [← hW]
    clear hW
    have f0 := frozen_of_row _ _ 0 _ _ xA
    have f1 := frozen_of_row _ _ 1 _ _ xA
    have y0 := cell_of_row _ _ 0 _ _ _ xA
    have y1 := cell_of_row _ _ 1 _ _ _ xA
    obtain ⟨zf, -, -, hB⟩ := box2_write (.int .i64 0) (.slice none 0 0) xA
    have hB2 := hB _ _ bA (Nat.le_refl _)
    go_wp2
    clear y0 y1 f0 f1 hB xA
    generalize (W.setCell ⟨w.heap.size, 0, none⟩ (.int .i64 0)).setCell ⟨w.heap.size, 1, none⟩ (.slice none 0 0) = U at *
    have q0 := cell_of_row _ _ 0 _ _ _ zf
    have q1 := cell_of_row _ _ 1 _ _ _ zf
    exact bodyPost_ret (v := .tuple #[.agg #[.int .i64 0, .slice none 0 0], .int .i64 2]) (by simp [results, Try.results11, go_sem, q0, q1]) rfl (.inl ⟨.inr h2, rfl, hB2⟩)
  · have d2 : decide (65536 < n) = false := decide_eq_false h2
    go_enter Try.func11, Try.ntmps11
    go_upto_region 1 with (fail)
    rw [← hW]
    clear hW
    have f0 := frozen_of_row _ _ 0 _ _ xA
    have f1 := frozen_of_row _ _ 1 _ _ xA
    have y0 := cell_of_row _ _ 0 _ _ _ xA
    have y1 := cell_of_row _ _ 1 _ _ _ xA
    obtain ⟨zf, -, -, hB⟩ := box2_write (.int .i64 n) (.slice none 0 0) xA
    have hB2 := hB _ _ bA (Nat.le_refl _)
    go_wp2
    clear y0 y1 f0 f1 hB xA
    generalize (W.setCell ⟨w.heap.size, 0, none⟩ (.int .i64 n)).setCell ⟨w.heap.size, 1, none⟩ (.slice none 0 0) = U at *
    have q0 := cell_of_row _ _ 0 _ _ _ zf
    have q1 := cell_of_row _ _ 1 _ _ _ zf
    exact bodyPost_ret (v := .tuple #[.agg #[.int .i64 n, .slice none 0 0], .int .i64 0]) (by simp [results, Try.results11, go_sem, q0, q1]) rfl (.inr ⟨⟨by omega, by omega⟩, rfl, hB2⟩)

def someB (f t : Int) (x : Ed) : Bool := decide ((f = -1 ∨ x.1 = f) ∧ (t = -1 ∨ x.2.1 = t))
/-- The edges from a node, and to one (-1: of any). -/
def someE (L : List Ed) (f t : Int) : List Ed := L.filter (someB f t)
theorem someE_snoc {L : List Ed} {k : Nat} (hk : k < L.length) (f t : Int) : someE (L.take (k + 1)) f t = someE (L.take k) f t ++ if someB f t (at3 L k) = true then [at3 L k] else [] := by
  rw [take_snoc3 hk]
  unfold someE
  rw [List.filter_append]
  by_cases h : someB f t (at3 L k) = true
  · rw [if_pos h]; simp [h]
  · rw [if_neg h]; simp [h]
theorem someE_le (L : List Ed) (f t : Int) : (someE L f t).length ≤ L.length := List.length_filter_le _ _
theorem someE_out (L : List Ed) {n : Int} (hn : 0 ≤ n) : someE L n (-1) = outE L n := by
  refine List.filter_congr fun x _ => ?_
  show decide ((n = -1 ∨ x.1 = n) ∧ (-1 = -1 ∨ x.2.1 = -1)) = decide (x.1 = n)
  rw [decide_eq_decide]; omega
theorem someE_in (L : List Ed) {n : Int} (hn : 0 ≤ n) : someE L (-1) n = inE L n := by
  refine List.filter_congr fun x _ => ?_
  show decide ((-1 = -1 ∨ x.1 = -1) ∧ (n = -1 ∨ x.2.1 = n)) = decide (x.2.1 = n)
  rw [decide_eq_decide]; omega
theorem someE_bet (L : List Ed) {n m : Int} (hn : 0 ≤ n) (hm : 0 ≤ m) : someE L n m = betE L n m := by
  refine List.filter_congr fun x _ => ?_
  show decide ((n = -1 ∨ x.1 = n) ∧ (m = -1 ∨ x.2.1 = m)) = decide (x.1 = n ∧ x.2.1 = m)
  rw [decide_eq_decide]; omega

set_option maxRecDepth 100000 in
set_option maxHeartbeats 3200000 in
theorem rsome_any {w : World} {B n c : Nat} {A : Option Addr} {L : List Ed} {N : Int} (f t : Int) (h : Rd w B 3 A n (ec L)) (hB : B ≤ w.heap.size) (hn : n ≤ 1000000) :
    Calls Try.prog 48 #[.agg #[.int .i64 N, .slice A n c], .int .i64 f, .int .i64 t] w (MadeC 48 3 (someE L f t).length (ec (someE L f t)) w) := by
  have HC := Lib_hid (rde_count h)
  have HI := Lib_hid (fun (W : World) (hW : Below w.heap.size w W) (i : Nat) (hi : i < n) => e_at (h.below (hW.mono hB)) hi)
  have HS : Hid (∀ k, k < n → someE (L.take (k + 1)) f t = someE (L.take k) f t ++ if someB f t (at3 L k) = true then [at3 L k] else []) := fun k hk => someE_snoc (by rw [HC.out]; exact hk) f t
  have HLN : Hid (∀ k, (someE (L.take k) f t).length ≤ n) := fun k => by
    have h1 := someE_le (L.take k) f t
    have h2 := List.length_take_le' k L
    have h3 := HC.out
    omega
  obtain ⟨i0, hi, hz0, hz1, hz2⟩ := info_parts Try.infoD
  have bA := below_new w (.cells #[.int .i64 N, .slice A n c] 31)
  have xA := heap_alloc_new w (.cells #[.int .i64 N, .slice A n c] 31)
  have sA : (w.alloc (.cells #[.int .i64 N, .slice A n c] 31)).heap.size = w.heap.size + 1 := by simp
  obtain ⟨W, hW⟩ : ∃ W, W = w.alloc (.cells #[.int .i64 N, .slice A n c] 31) := ⟨_, rfl⟩
  rw [← hW] at bA xA sA
  have HQ := Lib_hid (And.intro xA (And.intro bA sA))
  have KW : Hid (∀ V : World, Below (w.heap.size + 1) W V → V.cell? ⟨w.heap.size, 1, none⟩ = some (.slice A n c) ∧ Below w.heap.size w V) := fun V hb => by
    have h1 := (hb.block w.heap.size (by omega)).trans HQ.out.1
    exact ⟨cell_of_row _ _ 1 _ _ _ h1, HQ.out.2.1.trans (hb.mono (by omega))⟩
  clear h bA xA sA
  go_enter Try.func48, Try.ntmps48
  go_upto_region 1 with (fail)
  rw [← hW]
  clear hW
  go_wp2
  go_loopw [7, 8] (fun o i wr => ∃ (k m c' : Nat) (A' : Option Addr), o = .slice A' m c' ∧ i = .int .i64 k ∧ k ≤ n ∧ Hid (m = (someE (L.take k) f t).length) ∧ Hid (wr.ownsRow (w.heap.size + 1) 48 3 (.slice A' m c') m (ec (someE (L.take k) f t)) ∧ Below (w.heap.size + 1) W wr)) (fun _ i _ => n - (intOf i).toNat)
  case atStart => exact ⟨0, 0, 0, none, rfl, rfl, Nat.zero_le _, rfl, own_zero _ _ _ _, Below.refl _ _⟩
  case round =>
    obtain ⟨k, m, c', A', rfl, rfl, hk, hm, hs⟩ := hrel
    obtain ⟨g1, hbw⟩ := KW.out wr hs.out.2
    by_cases hlt : k < n
    · have hsn := HS.out k hlt
      obtain ⟨bk, off, hA, _, e0, e1, e2⟩ := HI.out _ hbw k hlt
      subst hA
      have hmn : m ≤ 1000000 := by have h1 := HLN.out k; rw [← hm.out] at h1; omega
      have hki : (k : Int) < (n : Int) := by omega
      have hk0 : (0 : Int) ≤ (k : Int) := by omega
      rw [show at3 L k = ((at3 L k).1, (at3 L k).2.1, (at3 L k).2.2) from rfl] at hsn
      obtain ⟨W1, rfl⟩ : ∃ W1, W1 = wr := ⟨wr, rfl⟩
      generalize (at3 L k).1 = a1 at *
      generalize (at3 L k).2.1 = a2 at *
      generalize (at3 L k).2.2 = a3 at *
      by_cases hf : f = -1
      · have bf : (f == -1) = true := beq_iff_eq.2 hf
        by_cases ht : t = -1
        · have bt : (t == -1) = true := beq_iff_eq.2 ht
          rw [if_pos (by show decide ((f = -1 ∨ a1 = f) ∧ (t = -1 ∨ a2 = t)) = true; exact decide_eq_true (by omega))] at hsn
          have HSN := Lib_hid hsn
          have bA := below_new W1 (.cells #[.int .i64 a1, .int .i64 a2, .int .i64 a3] 48)
          have HO2 := Lib_hid (And.intro (own_below hs.out.1 bA (own_lt hs.out.1)) (And.intro (ec_newD W1 (a1, a2, a3)) (And.intro (hs.out.2.trans (bA.mono (show w.heap.size + 1 ≤ W1.heap.size by have h1 := hs.out.2.size; have h2 := HQ.out.2.2; omega))) (show w.heap.size + 1 ≤ (W1.alloc (.cells #[.int .i64 a1, .int .i64 a2, .int .i64 a3] 48)).heap.size by have h1 := hs.out.2.size; have h2 := HQ.out.2.2; have h3 := bA.size; omega))))
          have hm1 : m + 1 ≤ maxLen := by unfold maxLen; omega
          have hmb : (m + 1) * 24 ≤ 140737488355328 := by omega
          clear bA hsn hs hf ht hbw
          go_wp2_with (at_builtin; (refine wpList_app rfl _ _ 29 rfl (w.heap.size + 1) 48 i0 (.agg #[.int .i64 0, .int .i64 0, .int .i64 0]) 3 24 Try.underlying29 hi hz0 hz1 hz2 rfl (by decide) _ m _ rfl HO2.out.1 (W1.heap.size + 1) (some ⟨W1.heap.size, 0, none⟩) 1 1 (ec [(a1, a2, a3)]) rfl HO2.out.2.1 (ec_one _) hm1 hmb HO2.out.2.2.2 ?_); intro v' w6 hown6 hst; obtain ⟨Aw6, cw6, rfl⟩ := own_form' hown6)
          rw [← ec_append, ← HSN.out] at hown6
          have hbw6 := Lib_hid (And.intro hown6 (HO2.out.2.2.1.grown hst.grow HO2.out.2.2.2 (own_ge HO2.out.1)))
          have hm2 : Hid (m + 1 = (someE (L.take (k + 1)) f t).length) := by rw [HSN.out, List.length_append, ← hm.out]; rfl
          clear hown6 hst HO2 e0 e1 e2 g1
          go_wp2
          go_roundw
          case rel => exact ⟨k + 1, m + 1, cw6, Aw6, rfl, by go_num, by omega, hm2, hbw6⟩
          case measure => simp [intOf]; omega
        · have bt : (t == -1) = false := beq_eq_false_iff_ne.2 ht
          by_cases h2 : a2 = t
          · have b2 : (a2 == t) = true := beq_iff_eq.2 h2
            rw [if_pos (by show decide ((f = -1 ∨ a1 = f) ∧ (t = -1 ∨ a2 = t)) = true; exact decide_eq_true (by omega))] at hsn
            have HSN := Lib_hid hsn
            have bA := below_new W1 (.cells #[.int .i64 a1, .int .i64 a2, .int .i64 a3] 48)
            have HO2 := Lib_hid (And.intro (own_below hs.out.1 bA (own_lt hs.out.1)) (And.intro (ec_newD W1 (a1, a2, a3)) (And.intro (hs.out.2.trans (bA.mono (show w.heap.size + 1 ≤ W1.heap.size by have h1 := hs.out.2.size; have h2 := HQ.out.2.2; omega))) (show w.heap.size + 1 ≤ (W1.alloc (.cells #[.int .i64 a1, .int .i64 a2, .int .i64 a3] 48)).heap.size by have h1 := hs.out.2.size; have h2 := HQ.out.2.2; have h3 := bA.size; omega))))
            have hm1 : m + 1 ≤ maxLen := by unfold maxLen; omega
            have hmb : (m + 1) * 24 ≤ 140737488355328 := by omega
            clear bA hsn hs hf ht h2 hbw
            go_wp2_with (at_builtin; (refine wpList_app rfl _ _ 29 rfl (w.heap.size + 1) 48 i0 (.agg #[.int .i64 0, .int .i64 0, .int .i64 0]) 3 24 Try.underlying29 hi hz0 hz1 hz2 rfl (by decide) _ m _ rfl HO2.out.1 (W1.heap.size + 1) (some ⟨W1.heap.size, 0, none⟩) 1 1 (ec [(a1, a2, a3)]) rfl HO2.out.2.1 (ec_one _) hm1 hmb HO2.out.2.2.2 ?_); intro v' w6 hown6 hst; obtain ⟨Aw6, cw6, rfl⟩ := own_form' hown6)
            rw [← ec_append, ← HSN.out] at hown6
            have hbw6 := Lib_hid (And.intro hown6 (HO2.out.2.2.1.grown hst.grow HO2.out.2.2.2 (own_ge HO2.out.1)))
            have hm2 : Hid (m + 1 = (someE (L.take (k + 1)) f t).length) := by rw [HSN.out, List.length_append, ← hm.out]; rfl
            clear hown6 hst HO2 e0 e1 e2 g1
            go_wp2
            go_roundw
            case rel => exact ⟨k + 1, m + 1, cw6, Aw6, rfl, by go_num, by omega, hm2, hbw6⟩
            case measure => simp [intOf]; omega
          · have b2 : (a2 == t) = false := beq_eq_false_iff_ne.2 h2
            rw [if_neg (by show ¬ decide ((f = -1 ∨ a1 = f) ∧ (t = -1 ∨ a2 = t)) = true; rw [decide_eq_true_eq]; omega), List.append_nil] at hsn
            rw [← hsn] at hm hs
            clear hsn hf ht h2
            go_wp2
            go_roundw
            case rel => exact ⟨k + 1, m, c', A', rfl, by go_num, by omega, hm, hs⟩
            case measure => simp [intOf]; omega
      · have bf : (f == -1) = false := beq_eq_false_iff_ne.2 hf
        by_cases h1 : a1 = f
        · have b1 : (a1 == f) = true := beq_iff_eq.2 h1
          by_cases ht : t = -1
          · have bt : (t == -1) = true := beq_iff_eq.2 ht
            rw [if_pos (by show decide ((f = -1 ∨ a1 = f) ∧ (t = -1 ∨ a2 = t)) = true; exact decide_eq_true (by omega))] at hsn
            have HSN := Lib_hid hsn
            have bA := below_new W1 (.cells #[.int .i64 a1, .int .i64 a2, .int .i64 a3] 48)
            have HO2 := Lib_hid (And.intro (own_below hs.out.1 bA (own_lt hs.out.1)) (And.intro (ec_newD W1 (a1, a2, a3)) (And.intro (hs.out.2.trans (bA.mono (show w.heap.size + 1 ≤ W1.heap.size by have h1 := hs.out.2.size; have h2 := HQ.out.2.2; omega))) (show w.heap.size + 1 ≤ (W1.alloc (.cells #[.int .i64 a1, .int .i64 a2, .int .i64 a3] 48)).heap.size by have h1 := hs.out.2.size; have h2 := HQ.out.2.2; have h3 := bA.size; omega))))
            have hm1 : m + 1 ≤ maxLen := by unfold maxLen; omega
            have hmb : (m + 1) * 24 ≤ 140737488355328 := by omega
            clear bA hsn hs hf h1 ht hbw
            go_wp2_with (at_builtin; (refine wpList_app rfl _ _ 29 rfl (w.heap.size + 1) 48 i0 (.agg #[.int .i64 0, .int .i64 0, .int .i64 0]) 3 24 Try.underlying29 hi hz0 hz1 hz2 rfl (by decide) _ m _ rfl HO2.out.1 (W1.heap.size + 1) (some ⟨W1.heap.size, 0, none⟩) 1 1 (ec [(a1, a2, a3)]) rfl HO2.out.2.1 (ec_one _) hm1 hmb HO2.out.2.2.2 ?_); intro v' w6 hown6 hst; obtain ⟨Aw6, cw6, rfl⟩ := own_form' hown6)
            rw [← ec_append, ← HSN.out] at hown6
            have hbw6 := Lib_hid (And.intro hown6 (HO2.out.2.2.1.grown hst.grow HO2.out.2.2.2 (own_ge HO2.out.1)))
            have hm2 : Hid (m + 1 = (someE (L.take (k + 1)) f t).length) := by rw [HSN.out, List.length_append, ← hm.out]; rfl
            clear hown6 hst HO2 e0 e1 e2 g1
            go_wp2
            go_roundw
            case rel => exact ⟨k + 1, m + 1, cw6, Aw6, rfl, by go_num, by omega, hm2, hbw6⟩
            case measure => simp [intOf]; omega
          · have bt : (t == -1) = false := beq_eq_false_iff_ne.2 ht
            by_cases h2 : a2 = t
            · have b2 : (a2 == t) = true := beq_iff_eq.2 h2
              rw [if_pos (by show decide ((f = -1 ∨ a1 = f) ∧ (t = -1 ∨ a2 = t)) = true; exact decide_eq_true (by omega))] at hsn
              have HSN := Lib_hid hsn
              have bA := below_new W1 (.cells #[.int .i64 a1, .int .i64 a2, .int .i64 a3] 48)
              have HO2 := Lib_hid (And.intro (own_below hs.out.1 bA (own_lt hs.out.1)) (And.intro (ec_newD W1 (a1, a2, a3)) (And.intro (hs.out.2.trans (bA.mono (show w.heap.size + 1 ≤ W1.heap.size by have h1 := hs.out.2.size; have h2 := HQ.out.2.2; omega))) (show w.heap.size + 1 ≤ (W1.alloc (.cells #[.int .i64 a1, .int .i64 a2, .int .i64 a3] 48)).heap.size by have h1 := hs.out.2.size; have h2 := HQ.out.2.2; have h3 := bA.size; omega))))
              have hm1 : m + 1 ≤ maxLen := by unfold maxLen; omega
              have hmb : (m + 1) * 24 ≤ 140737488355328 := by omega
              clear bA hsn hs hf h1 ht h2 hbw
              go_wp2_with (at_builtin; (refine wpList_app rfl _ _ 29 rfl (w.heap.size + 1) 48 i0 (.agg #[.int .i64 0, .int .i64 0, .int .i64 0]) 3 24 Try.underlying29 hi hz0 hz1 hz2 rfl (by decide) _ m _ rfl HO2.out.1 (W1.heap.size + 1) (some ⟨W1.heap.size, 0, none⟩) 1 1 (ec [(a1, a2, a3)]) rfl HO2.out.2.1 (ec_one _) hm1 hmb HO2.out.2.2.2 ?_); intro v' w6 hown6 hst; obtain ⟨Aw6, cw6, rfl⟩ := own_form' hown6)
              rw [← ec_append, ← HSN.out] at hown6
              have hbw6 := Lib_hid (And.intro hown6 (HO2.out.2.2.1.grown hst.grow HO2.out.2.2.2 (own_ge HO2.out.1)))
              have hm2 : Hid (m + 1 = (someE (L.take (k + 1)) f t).length) := by rw [HSN.out, List.length_append, ← hm.out]; rfl
              clear hown6 hst HO2 e0 e1 e2 g1
              go_wp2
              go_roundw
              case rel => exact ⟨k + 1, m + 1, cw6, Aw6, rfl, by go_num, by omega, hm2, hbw6⟩
              case measure => simp [intOf]; omega
            · have b2 : (a2 == t) = false := beq_eq_false_iff_ne.2 h2
              rw [if_neg (by show ¬ decide ((f = -1 ∨ a1 = f) ∧ (t = -1 ∨ a2 = t)) = true; rw [decide_eq_true_eq]; omega), List.append_nil] at hsn
              rw [← hsn] at hm hs
              clear hsn hf h1 ht h2
              go_wp2
              go_roundw
              case rel => exact ⟨k + 1, m, c', A', rfl, by go_num, by omega, hm, hs⟩
              case measure => simp [intOf]; omega
        · have b1 : (a1 == f) = false := beq_eq_false_iff_ne.2 h1
          rw [if_neg (by show ¬ decide ((f = -1 ∨ a1 = f) ∧ (t = -1 ∨ a2 = t)) = true; rw [decide_eq_true_eq]; omega), List.append_nil] at hsn
          rw [← hsn] at hm hs
          clear hsn hf h1
          go_wp2
          go_roundw
          case rel => exact ⟨k + 1, m, c', A', rfl, by go_num, by omega, hm, hs⟩
          case measure => simp [intOf]; omega
    · obtain rfl : k = n := by omega
      rw [List.take_of_length_le (by rw [HC.out]; exact Nat.le_refl _)] at hm hs
      have hbw2 := Lib_hid hbw
      have hm9 := hm.out
      clear hbw HS HLN HI
      subst hm9
      go_wp2
      go_ret
      exact ⟨A', c', rfl, own_mono' hs.out.1 (by omega), hbw2.out⟩

set_option maxRecDepth 100000 in
set_option maxHeartbeats 3200000 in
theorem raddx_any {w : World} {B n c n' c' : Nat} {A A' : Option Addr} {l : List Ed} {N : Nat} (h' : Rd w B 3 A' n' (ec l)) (hB : B ≤ w.heap.size) (hn' : n' ≤ 10000) (hok : ¬ ∀ e ∈ l, okE N e = true) (hN : N ≤ 65536) :
    Calls Try.prog 14 #[.agg #[.int .i64 (N : Int), .slice A n c], .slice A' n' c'] w (fun r w' => r = .returned (.tuple #[.agg #[.int .i64 (N : Int), .slice A n c], .int .i64 0, .int .i64 130]) ∧ Below w.heap.size w w') := by
  have HC' := Lib_hid (rde_count h')
  have HI := Lib_hid (fun (W : World) (hW : Below w.heap.size w W) (i : Nat) (hi : i < n') => e_at (h'.below (hW.mono hB)) hi)
  have HOK : Hid (¬ ∀ j, j < n' → okE N (at3 l j) = true) := fun hc => hok (all_at HC'.out hc)
  obtain ⟨W, hW⟩ : ∃ W, W = (w.alloc (.cells #[.int .i64 (N : Int), .slice A n c] 31)).alloc (.cells #[.int .i64 0, .slice none 0 0] 31) := ⟨_, rfl⟩
  have b1 := below_new w (.cells #[.int .i64 (N : Int), .slice A n c] 31)
  have s1 : (w.alloc (.cells #[.int .i64 (N : Int), .slice A n c] 31)).heap.size = w.heap.size + 1 := by simp
  have b2 := below_new (w.alloc (.cells #[.int .i64 (N : Int), .slice A n c] 31)) (.cells #[.int .i64 0, .slice none 0 0] 31)
  have x1 := (b2.block w.heap.size (by omega)).trans (heap_alloc_new w _)
  have x2 := heap_alloc_new (w.alloc (.cells #[.int .i64 (N : Int), .slice A n c] 31)) (.cells #[.int .i64 0, .slice none 0 0] 31)
  rw [s1] at x2
  have hbW : Below w.heap.size w W := by rw [hW]; exact b1.trans (b2.mono b1.size)
  rw [← hW] at x1 x2
  have HQ := Lib_hid (And.intro x1 (And.intro x2 hbW))
  clear h' b1 b2 s1 x1 x2 hbW hok
  go_enter Try.func14, Try.ntmps14
  go_wp2
  rw [← hW]
  clear hW
  have w0 := cell_of_row _ _ 0 _ _ _ HQ.out.1
  have w1 := cell_of_row _ _ 1 _ _ _ HQ.out.1
  go_loopw [7] (fun i wr => ∃ k q : Nat, i = .int .i64 k ∧ k ≤ n' ∧ Hid (∀ j, j < k → okE N (at3 l j) = true) ∧ wr = W.drewN q) (fun i _ => n' - (intOf i).toNat)
  case atStart => exact ⟨0, 0, rfl, Nat.zero_le _, fun j hj => absurd hj (Nat.not_lt_zero j), rfl⟩
  case round =>
    obtain ⟨k, q, rfl, hk, hpre, rfl⟩ := hrel
    by_cases hlt : k < n'
    · obtain ⟨b, off, rfl, _, c0, c1, c2⟩ := HI.out W HQ.out.2.2 k hlt
      have hki : (k : Int) < (n' : Int) := by omega
      have hk0 : (0 : Int) ≤ (k : Int) := by omega
      by_cases hko : okE N (at3 l k) = true
      · have ho := okE_iff.1 hko
        have d1 : decide ((at3 l k).1 < 0) = false := decide_eq_false (by omega)
        have d2 : decide ((N : Int) ≤ (at3 l k).1) = false := decide_eq_false (by omega)
        have d3 : decide ((at3 l k).2.1 < 0) = false := decide_eq_false (by omega)
        have d4 : decide ((N : Int) ≤ (at3 l k).2.1) = false := decide_eq_false (by omega)
        have hpre2 : Hid (∀ j, j < k + 1 → okE N (at3 l j) = true) := fun j hj => by
          rcases Nat.lt_or_ge j k with h | h
          · exact hpre.out j h
          · obtain rfl : j = k := by omega
            exact hko
        clear ho hko hpre
        generalize (at3 l k).1 = a1 at *
        generalize (at3 l k).2.1 = a2 at *
        generalize (at3 l k).2.2 = a3 at *
        go_wp2
        go_quiet (fail)
        go_wp2
        go_roundw
        case rel => exact ⟨k + 1, q + nq, by go_num, by omega, hpre2, rfl⟩
        case measure => simp [intOf]; omega
      · have ho : ¬ (0 ≤ (at3 l k).1 ∧ (at3 l k).1 < N ∧ 0 ≤ (at3 l k).2.1 ∧ (at3 l k).2.1 < N) := fun hc => hko (okE_iff.2 hc)
        have f0 := frozen_of_row _ _ 0 _ _ HQ.out.2.1
        have f1 := frozen_of_row _ _ 1 _ _ HQ.out.2.1
        have y0 := cell_of_row _ _ 0 _ _ _ HQ.out.2.1
        have y1 := cell_of_row _ _ 1 _ _ _ HQ.out.2.1
        have HUQ : Hid (∀ NQ : Nat, ((W.drewN NQ).heap[w.heap.size + 1]? = some (.cells #[.int .i64 0, .slice none 0 0] 31 (0, 0))) ∧ Below w.heap.size w (W.drewN NQ)) := fun NQ => ⟨HQ.out.2.1, ⟨HQ.out.2.2.os, HQ.out.2.2.tape, HQ.out.2.2.output, HQ.out.2.2.size, HQ.out.2.2.block⟩⟩
        clear hko hpre
        generalize (at3 l k).1 = a1 at *
        generalize (at3 l k).2.1 = a2 at *
        generalize (at3 l k).2.2 = a3 at *
        by_cases h1 : a1 < 0
        · have d1 : decide (a1 < 0) = true := decide_eq_true h1
          clear ho
          go_wp2
          go_quiet (fail)
          clear c0 c1 c2 hki hk0
          have HU := HUQ.out (q + nq)
          obtain ⟨zf, -, -, hBB⟩ := box2_write (.int .i64 (N : Int)) (.slice A n c) HU.1
          have hB2 := hBB _ _ HU.2 (show w.heap.size ≤ w.heap.size + 1 by omega)
          go_wp2
          clear y0 y1 f0 f1 hBB HU
          generalize ((W.drewN (q + nq)).setCell ⟨w.heap.size + 1, 0, none⟩ (.int .i64 (N : Int))).setCell ⟨w.heap.size + 1, 1, none⟩ (.slice A n c) = U at *
          have q0 := cell_of_row _ _ 0 _ _ _ zf
          have q1 := cell_of_row _ _ 1 _ _ _ zf
          exact bodyPost_ret (v := .tuple #[.agg #[.int .i64 (N : Int), .slice A n c], .int .i64 0, .int .i64 130]) (by simp [results, Try.results14, go_sem, q0, q1]) rfl ⟨rfl, hB2⟩
        · have d1 : decide (a1 < 0) = false := decide_eq_false h1
          by_cases h2 : (N : Int) ≤ a1
          · have d2 : decide ((N : Int) ≤ a1) = true := decide_eq_true h2
            clear ho
            go_wp2
            go_quiet (fail)
            clear c0 c1 c2 hki hk0
            have HU := HUQ.out (q + nq)
            obtain ⟨zf, -, -, hBB⟩ := box2_write (.int .i64 (N : Int)) (.slice A n c) HU.1
            have hB2 := hBB _ _ HU.2 (show w.heap.size ≤ w.heap.size + 1 by omega)
            go_wp2
            clear y0 y1 f0 f1 hBB HU
            generalize ((W.drewN (q + nq)).setCell ⟨w.heap.size + 1, 0, none⟩ (.int .i64 (N : Int))).setCell ⟨w.heap.size + 1, 1, none⟩ (.slice A n c) = U at *
            have q0 := cell_of_row _ _ 0 _ _ _ zf
            have q1 := cell_of_row _ _ 1 _ _ _ zf
            exact bodyPost_ret (v := .tuple #[.agg #[.int .i64 (N : Int), .slice A n c], .int .i64 0, .int .i64 130]) (by simp [results, Try.results14, go_sem, q0, q1]) rfl ⟨rfl, hB2⟩
          · have d2 : decide ((N : Int) ≤ a1) = false := decide_eq_false h2
            by_cases h3 : a2 < 0
            · have d3 : decide (a2 < 0) = true := decide_eq_true h3
              clear ho
              go_wp2
              go_quiet (fail)
              clear c0 c1 c2 hki hk0
              have HU := HUQ.out (q + nq)
              obtain ⟨zf, -, -, hBB⟩ := box2_write (.int .i64 (N : Int)) (.slice A n c) HU.1
              have hB2 := hBB _ _ HU.2 (show w.heap.size ≤ w.heap.size + 1 by omega)
              go_wp2
              clear y0 y1 f0 f1 hBB HU
              generalize ((W.drewN (q + nq)).setCell ⟨w.heap.size + 1, 0, none⟩ (.int .i64 (N : Int))).setCell ⟨w.heap.size + 1, 1, none⟩ (.slice A n c) = U at *
              have q0 := cell_of_row _ _ 0 _ _ _ zf
              have q1 := cell_of_row _ _ 1 _ _ _ zf
              exact bodyPost_ret (v := .tuple #[.agg #[.int .i64 (N : Int), .slice A n c], .int .i64 0, .int .i64 130]) (by simp [results, Try.results14, go_sem, q0, q1]) rfl ⟨rfl, hB2⟩
            · have d3 : decide (a2 < 0) = false := decide_eq_false h3
              have d4 : decide ((N : Int) ≤ a2) = true := decide_eq_true (by omega)
              clear ho
              go_wp2
              go_quiet (fail)
              clear c0 c1 c2 hki hk0
              have HU := HUQ.out (q + nq)
              obtain ⟨zf, -, -, hBB⟩ := box2_write (.int .i64 (N : Int)) (.slice A n c) HU.1
              have hB2 := hBB _ _ HU.2 (show w.heap.size ≤ w.heap.size + 1 by omega)
              go_wp2
              clear y0 y1 f0 f1 hBB HU
              generalize ((W.drewN (q + nq)).setCell ⟨w.heap.size + 1, 0, none⟩ (.int .i64 (N : Int))).setCell ⟨w.heap.size + 1, 1, none⟩ (.slice A n c) = U at *
              have q0 := cell_of_row _ _ 0 _ _ _ zf
              have q1 := cell_of_row _ _ 1 _ _ _ zf
              exact bodyPost_ret (v := .tuple #[.agg #[.int .i64 (N : Int), .slice A n c], .int .i64 0, .int .i64 130]) (by simp [results, Try.results14, go_sem, q0, q1]) rfl ⟨rfl, hB2⟩
    · obtain rfl : k = n' := by omega
      exact absurd hpre.out HOK.out

end Go.Proofs.Ytopecdkkmbpnbaa
