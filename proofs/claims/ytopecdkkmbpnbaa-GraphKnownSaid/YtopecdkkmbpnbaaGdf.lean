/-
  Layer 13: a graph as the document has it (Graph).
-/
import Derived.Test.YtopecdkkmbpnbaaGde
namespace Go.Proofs.Ytopecdkkmbpnbaa
open Go Go.RowKit Go.Maps
set_option linter.unusedVariables false

/-- A pair stored whole into its box: the row behind it stays. -/
theorem box_store {w w9 : World} {q base n c4 size : Nat} {T E : TypeId} {x y u v : Value} {A4 : Option Addr} {xs : List Value} (zo : w9.heap[q]? = some (.cells #[y, x] T (0, 0))) (ho : w9.ownsRow base E size (.slice A4 n c4) n xs) (hq : q + 1 ≤ base) (hb : Below q w w9) :
    ((w9.setCell ⟨q, 0, none⟩ u).setCell ⟨q, 1, none⟩ v).heap[q]? = some (.cells #[u, v] T (0, 0)) ∧ Below q w ((w9.setCell ⟨q, 0, none⟩ u).setCell ⟨q, 1, none⟩ v) ∧ ((w9.setCell ⟨q, 0, none⟩ u).setCell ⟨q, 1, none⟩ v).heap.size = w9.heap.size ∧ ((w9.setCell ⟨q, 0, none⟩ u).setCell ⟨q, 1, none⟩ v).ownsRow base E size (.slice A4 n c4) n xs := by
  have z1 : (w9.setCell ⟨q, 0, none⟩ u).heap[q]? = some (.cells #[u, x] T (0, 0)) := by rw [heap_setCell_same _ q 0 _ _ _ zo]; rfl
  have ho2 : ∀ p, p ≠ q → ((w9.setCell ⟨q, 0, none⟩ u).setCell ⟨q, 1, none⟩ v).heap[p]? = w9.heap[p]? := fun p hp => (heap_setCell_other _ ⟨q, 1, none⟩ p _ hp).trans (heap_setCell_other _ ⟨q, 0, none⟩ p _ hp)
  refine ⟨by rw [heap_setCell_same _ q 1 _ _ _ z1]; rfl, (hb.setCell (p := ⟨q, 0, none⟩) (Nat.le_refl _) _).setCell (p := ⟨q, 1, none⟩) (Nat.le_refl _) _, by simp, own_keep ho fun k hk => ho2 k ?_⟩
  have := own_ge ho k hk
  omega

/-- A graph of the document's, answered. -/
def RgE (N : Nat) (L : List Ed) (w : World) (r : Ending) (w' : World) : Prop := ∃ (A : Option Addr) (c : Nat), r = .returned (.agg #[.int .i64 (N : Int), .slice A L.length c]) ∧ Rd w' w'.heap.size 3 A L.length (ec L) ∧ Below w.heap.size w w'

set_option maxRecDepth 100000 in
set_option maxHeartbeats 1600000 in
theorem rgraph_any {w : World} {p N : Nat} {S : Nat → Prop} {L : List Ed} (h : GmIs w p S N L) (hN : N ≤ 65536) (hL : L.length ≤ 1000000) :
    Calls Try.prog 21 #[.pointer (some ⟨p, 0, none⟩)] w (RgE N L w) := by
  have LE := Lib_hid (fun (W : World) (hW : Below w.heap.size w W) => plen_any (h.later hW))
  have ED := Lib_hid (fun (W : World) (hW : Below w.heap.size w W) => pedges_any (h.later hW) hN hL)
  have RE := Lib_hid (fun (V : World) (A : Option Addr) (c : Nat) (B : Nat) (ho : V.ownsRow B 39 3 (.slice A L.length c) L.length (ec L)) => redges_any (c := c) (Rd.own ho) (Nat.le_refl _) hL)
  have b1 := below_new w (.cells #[.int .i64 0, .slice none 0 0] 31)
  have x1 := heap_alloc_new w (.cells #[.int .i64 0, .slice none 0 0] 31)
  have s1 : (w.alloc (.cells #[.int .i64 0, .slice none 0 0] 31)).heap.size = w.heap.size + 1 := by simp
  clear h
  go_enter Try.func21, Try.ntmps21
  go_upto_region 1 with (fail)
  generalize w.alloc (.cells #[.int .i64 0, .slice none 0 0] 31) = W at *
  have HW : Hid (W.heap[w.heap.size]? = some (.cells #[.int .i64 0, .slice none 0 0] 31 (0, 0)) ∧ Below w.heap.size w W ∧ W.heap.size = w.heap.size + 1) := ⟨x1, b1, s1⟩
  clear x1 b1 s1
  have hL2 := Lib_hid hL
  clear hL
  generalize hn : L.length = n at *
  have HLn := Lib_hid hn
  clear hn
  go_wp2_with (first
    | (go_at_call 30; refine (LE.out _ HW.out.2.1).mono ?_; rintro r ws ⟨rfl, rfl⟩)
    | (go_at_call 34; refine (ED.out _ HW.out.2.1).mono ?_; rintro r w2 ⟨A1, c1, rfl, ho1, hb1⟩)
    | (go_at_call 15; refine (RE.out _ _ _ _ ho1).mono ?_; rintro r w3 ⟨A2, c2, rfl, ho2, hb2⟩; have z3 : w3.heap[w.heap.size]? = _ := (hb2.block w.heap.size (by have h1 := hb1.size; have h2 := HW.out.2.2; omega)).trans ((hb1.block w.heap.size (by have h2 := HW.out.2.2; omega)).trans HW.out.1); have f0 := frozen_of_row _ _ 0 _ _ z3; have f1 := frozen_of_row _ _ 1 _ _ z3; have y0 := cell_of_row _ _ 0 _ _ _ z3; have y1 := cell_of_row _ _ 1 _ _ _ z3))
  have BS := box_store (u := .int .i64 (N : Int)) (v := .slice A2 n c2) z3 ho2 (by have h1 := hb1.size; have h2 := HW.out.2.2; omega) ((HW.out.2.1.trans (hb1.mono (by have h2 := HW.out.2.2; omega))).trans (hb2.mono (by have h1 := hb1.size; have h2 := HW.out.2.2; omega)))
  clear z3 f0 f1 y0 y1 ho1 ho2 hb1 hb2
  generalize (w3.setCell ⟨w.heap.size, 0, none⟩ (.int .i64 (N : Int))).setCell ⟨w.heap.size, 1, none⟩ (.slice A2 n c2) = U at *
  obtain ⟨zf, hB, hs, ho⟩ := BS
  have q0 := cell_of_row _ _ 0 _ _ _ zf
  have q1 := cell_of_row _ _ 1 _ _ _ zf
  exact bodyPost_ret (v := .agg #[.int .i64 (N : Int), .slice A2 n c2]) (by simp [results, Try.results21, go_sem, q0, q1]) rfl ⟨A2, c2, by rw [HLn.out], by rw [HLn.out]; exact Rd.own ho, hB⟩

end Go.Proofs.Ytopecdkkmbpnbaa
