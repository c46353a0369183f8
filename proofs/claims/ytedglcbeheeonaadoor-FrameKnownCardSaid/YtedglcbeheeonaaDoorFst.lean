/-
  The contract of the program's frame.stand: a frame's bytes behind a row.
-/
import Derived.Test.YtedglcbeheeonaaDoorFck
import Derived.Test.YtedglcbeheeonaaDoorPut
import Derived.Test.YtedglcbeheeonaaDoorCut
import Derived.Deep.DeepCutAuto
import Derived.Deep.CutBlock
namespace Go.Proofs.YtedglcbeheeonaaDoor
open Go Go.RowKit
set_option linter.unusedVariables false

/-- A row that grows, next to a box g that stays. -/
structure RowBox (E T : TypeId) (w0 w : World) (B g : Nat) (cs : Array Value) (v0 : Value) (A : Option Addr) (n c : Nat) (ys : List Nat) : Prop where
  own : w.ownsRow B E 1 (.slice A n c) n (bs ys)
  box : w.heap[g]? = some (.cells cs T (0, 0))
  ne : (Value.slice A n c).ownBlock ≠ some g
  stp : Stp w0 w v0 (.slice A n c)

section
variable {E T : TypeId} {w0 w w' : World} {B g : Nat} {cs : Array Value} {v0 : Value} {A A' : Option Addr} {n c n' c' : Nat} {ys ys' : List Nat}
theorem RowBox.lt (h : RowBox E T w0 w B g cs v0 A n c ys) : g < w.heap.size := (Array.getElem?_eq_some_iff.1 h.box).1
theorem RowBox.keep (h : RowBox E T w0 w B g cs v0 A n c ys) (hb : Below w.heap.size w w') : RowBox E T w0 w' B g cs v0 A n c ys :=
  ⟨own_below h.own hb (own_lt h.own), (hb.block g h.lt).trans h.box, h.ne, h.stp.trans ⟨⟨hb.os, hb.tape, hb.output, hb.size, fun i hi _ => hb.block i hi⟩, .inl rfl⟩⟩
theorem RowBox.step (h : RowBox E T w0 w B g cs v0 A n c ys) (ho : w'.ownsRow B E 1 (.slice A' n' c') n' (bs ys')) (hs : Stp w w' (.slice A n c) (.slice A' n' c')) : RowBox E T w0 w' B g cs v0 A' n' c' ys' := by
  refine ⟨ho, (hs.grow.block g h.lt (fun e => h.ne e.symm)).trans h.box, fun e => ?_, h.stp.trans hs⟩
  rcases hs.row with h1 | ⟨k, h1, h2⟩
  · exact h.ne (h1.symm.trans e)
  · have := h.lt; rw [h1] at e; injection e with e; omega
theorem RowBox.cell (h : RowBox E T w0 w B g cs v0 A n c ys) (i : Nat) : w.cell? ⟨g, i, none⟩ = cs[i]? := cell_of_row w g i cs T (0, 0) h.box
end

set_option maxRecDepth 100000 in
set_option maxHeartbeats 800000 in
theorem fstand_any (B : Nat) (A : Option Addr) (n c : Nat) (lb : List Nat) (k : Nat) (A2 : Option Addr) (m c2 : Nat) (p : List Nat) (w : World) (hT : Tab w) (h0 : 0 < B) (hB : B ≤ w.heap.size)
    (hown : w.ownsRow B 5 1 (.slice A n c) n (bs lb)) (hlb : ∀ x ∈ lb, x < 256) (hr : Rd w B 1 A2 m (bs p)) (hp : ∀ x ∈ p, x < 256) (hk : k < 256) (hn : n ≤ 1000000000) (hm : m ≤ 1000000000) :
    Calls Tryd.prog 30 #[.slice A n c, .agg #[.int .u8 (k : Int), .slice A2 m c2]] w (Grew 5 B (.slice A n c) (bs (lb ++ frS k p)) w) := by
  obtain ⟨i0, hi, hz0, hz1, hz2⟩ := info_parts Tryd.info5
  have hpm : p.length = m := hr.count
  have hln : lb.length = n := by have := hown.1; rw [bs_length] at this; omega
  have hten := enc_ten (v := m) (by omega)
  have hS0 : RowBox 5 25 w (w.alloc (.cells #[.int .u8 (k : Int), .slice A2 m c2] 25)) B w.heap.size #[.int .u8 (k : Int), .slice A2 m c2] (.slice A n c) A n c lb :=
    ⟨own_below hown (below_new _ _) (own_lt hown), heap_alloc_new w _, fun e => by have := own_lt hown _ e; omega, Stp.alloc _ _ _⟩
  have hge := own_ge hown
  have RP : ∀ w' v', Stp w w' (.slice A n c) v' → Rd w' B 1 A2 m (bs p) := fun _ _ h => hr.below (h.below hB hge)
  have HRP := Lib_hid RP
  have HLB := Lib_hid hlb
  have HP := Lib_hid hp
  have HPM := Lib_hid hpm
  have HLN := Lib_hid hln
  have HGE := Lib_hid hge
  have hTb : ∀ w' v', Stp w w' (.slice A n c) v' → Tab w' := fun _ _ h => hT.below (h.below hB hge) h0
  have HTB := Lib_hid hTb
  have hBs : ∀ w' v', Stp w w' (.slice A n c) v' → B ≤ w'.heap.size := fun _ _ h => Nat.le_trans hB h.grow.size
  have HBS := Lib_hid hBs
  clear RP hlb hp hpm hge hTb hBs hown hr hln
  go_enter Tryd.func30, Tryd.ntmps30
  have hm1 : n + 1 ≤ maxLen := by unfold maxLen; omega
  have hm2 : (n + 1) * 1 ≤ 140737488355328 := by omega
  go_upto_region 2 with (fail)
  generalize w.alloc (.cells #[.int .u8 (k : Int), .slice A2 m c2] 25) = W0 at *
  have q0 : W0.cell? ⟨w.heap.size, 0, none⟩ = some (.int .u8 (k : Int)) := hS0.cell 0
  have hs0 := HBS.out _ _ hS0.stp
  have hsB : ∀ o, B ≤ (W0.alloc o).heap.size := by intro o; simp; omega
  go_upto_region 3 with (at_builtin; (refine wpList_app rfl _ _ 23 rfl B 5 i0 (.int .u8 0) 1 1 Tryd.underlying23 hi hz0 hz1 hz2 rfl (by decide) _ n _ rfl (hS0.own.alloc _) (W0.heap.size + 1) (some ⟨W0.heap.size, 0, none⟩) 1 1 (bs [k]) rfl (Rd.new1 W0 k 5) (bs_one _) hm1 hm2 (hsB _) ?_); intro v' w1 hown' hst; obtain ⟨A1, c1, rfl, _⟩ := own_form hown')
  have hS1 := (hS0.keep (below_new W0 _)).step (by rw [bs_append]; exact hown') hst
  clear hS0 hown' hst q0 hsB hs0 hm1 hm2
  have q1 : w1.cell? ⟨w.heap.size, 1, none⟩ = some (.slice A2 m c2) := hS1.cell 1
  go_wp2_with fail
  refine (put_any m w1 (by omega)).mono ?_
  rintro e w2 ⟨A2', c2', rfl, ho2, hb2⟩
  have hS2 := hS1.keep hb2
  have hs2 := HBS.out _ _ hS2.stp
  have hm1 : n + 1 + (enc m).length ≤ maxLen := by unfold maxLen; omega
  have hm2 : (n + 1 + (enc m).length) * 1 ≤ 140737488355328 := by omega
  clear hS1 q1 hb2
  go_upto_region 4 with (at_builtin; (refine wpList_app rfl _ _ 23 rfl B 5 i0 (.int .u8 0) 1 1 Tryd.underlying23 hi hz0 hz1 hz2 rfl (by decide) _ (n + 1) _ rfl hS2.own w2.heap.size A2' (enc m).length c2' (bs (enc m)) rfl (Rd.own ho2) (bs_one _) hm1 hm2 hs2 ?_); intro v' w3 hown' hst; obtain ⟨A3, c3, rfl, _⟩ := own_form hown')
  have hS3 := hS2.step (by rw [bs_append]; exact hown') hst
  clear hS2 hown' hst ho2 hs2 hm1 hm2
  have q3 : w3.cell? ⟨w.heap.size, 1, none⟩ = some (.slice A2 m c2) := hS3.cell 1
  have hs3 := HBS.out _ _ hS3.stp
  have hr3 := HRP.out _ _ hS3.stp
  have hm1 : n + 1 + (enc m).length + m ≤ maxLen := by unfold maxLen; omega
  have hm2 : (n + 1 + (enc m).length + m) * 1 ≤ 140737488355328 := by omega
  go_upto_region 5 with (at_builtin; (refine wpList_app rfl _ _ 23 rfl B 5 i0 (.int .u8 0) 1 1 Tryd.underlying23 hi hz0 hz1 hz2 rfl (by decide) _ (n + 1 + (enc m).length) _ rfl hS3.own B A2 m c2 (bs p) rfl hr3 (bs_one _) hm1 hm2 hs3 ?_); intro v' w4 hown' hst; obtain ⟨A4, c4, rfl, _⟩ := own_form hown')
  have hS4 := hS3.step (by rw [bs_append]; exact hown') hst
  clear hS3 hown' hst hs3 hm1 hm2 q3 hr3
  have hcap := own_cap hS4.own
  obtain ⟨D, hD, rD⟩ := slice_lo (j := n) (Rd.own hS4.own) (by omega) hcap.1
  rw [← bs_drop] at rD
  have hdrop : (lb ++ [k] ++ enc m ++ p).drop n = frB k p := by
    rw [List.append_assoc, List.append_assoc, List.drop_left' HLN.out]
    unfold frB
    rw [HPM.out]
    rfl
  rw [hdrop] at rD
  have hfB := frB_byte hk HP.out
  have hfl : (frB k p).length = 1 + (enc m).length + m := by rw [frB_length, HPM.out]
  have CK := fcheck_any w4.heap.size D (n + 1 + (enc m).length + m - n) (c4 - n) (frB k p) w4 (HTB.out _ _ hS4.stp) rD hfB (by omega) (by omega) (Nat.le_refl _)
  have HCK := Lib_hid CK
  have HFL := Lib_hid hfl
  clear CK rD hfB hdrop hfl
  go_wp2_with fail
  refine HCK.out.mono ?_
  rintro e w5 ⟨A5, c5, rfl, ho5, hb5⟩
  have hS5 := hS4.keep hb5
  have hs5 := HBS.out _ _ hS5.stp
  have hm1 : n + 1 + (enc m).length + m + (le4 (crcN (frB k p))).length ≤ maxLen := by rw [le4_length]; unfold maxLen; omega
  have hm2 : (n + 1 + (enc m).length + m + (le4 (crcN (frB k p))).length) * 1 ≤ 140737488355328 := by rw [le4_length]; omega
  clear hS4 hb5 HCK hD
  go_wp2_with (at_builtin; (refine wpList_app rfl _ _ 23 rfl B 5 i0 (.int .u8 0) 1 1 Tryd.underlying23 hi hz0 hz1 hz2 rfl (by decide) _ (n + 1 + (enc m).length + m) _ rfl hS5.own w5.heap.size A5 _ c5 _ rfl (Rd.own ho5) (bs_one _) hm1 hm2 hs5 ?_); intro v' w6 hown' hst; obtain ⟨A6, c6, rfl, _⟩ := own_form hown')
  have hS6 := hS5.step (by rw [bs_append]; exact hown') hst
  go_ret
  refine ⟨A6, _, c6, rfl, ?_, hS6.stp⟩
  have := hS6.own
  rwa [show lb ++ [k] ++ enc m ++ p ++ le4 (crcN (frB k p)) = lb ++ frS k p by unfold frS frB; rw [HPM.out]; simp] at this

end Go.Proofs.YtedglcbeheeonaaDoor
