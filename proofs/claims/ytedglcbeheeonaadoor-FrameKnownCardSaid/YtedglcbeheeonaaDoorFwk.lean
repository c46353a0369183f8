/-
  The contract of the statements' works: the chapter's examples.
-/
import Derived.Test.YtedglcbeheeonaaDoorFsl
import Derived.Laws.MakeOwn
namespace Go.Proofs.YtedglcbeheeonaaDoor
open Go Go.RowKit
set_option linter.unusedVariables false

theorem fr_in_row {w : World} {B g n : Nat} {cs : List Value} {T : TypeId} (hb : w.heap[g]? = some (.cells cs.toArray T (0, 0))) (hg : g < B) (hl : cs.length = n * 2) : Rd w B 2 (some ⟨g, 0, none⟩) n cs :=
  ⟨hl, fun _ => ⟨_, rfl, hg, fun j u hu => by rw [add_plain, Nat.zero_add, cell_of_row w g j _ T (0, 0) hb]; simpa using hu⟩⟩

theorem map_one {α β : Type} {f : α → β} {l : List α} {b : β} (h : [b] = l.map f) : ∃ x, l = [x] ∧ f x = b := by
  cases l with
  | nil => simp at h
  | cons x l =>
    cases l with
    | nil => simp at h; exact ⟨x, rfl, h.symm⟩
    | cons y l => simp at h
theorem enc_zero : enc 0 = [0] := enc_lt (by decide)
theorem seven_len : (frS 7 []).length = 6 := by rw [frS_length, List.length_nil, enc_zero]; rfl
theorem seven_split : splitS (frS 7 [] ++ [9]) = ([(7, [], 0, 6)], 6, 1) := by
  have hl : (frS 7 [] ++ [9]).length = 7 := by rw [List.length_append, seven_len]; rfl
  have hb : ∀ x ∈ frS 7 [] ++ [9], x < 256 := by
    intro x hx
    rcases List.mem_append.1 hx with hx | hx
    · exact frS_byte (by decide) (by simp) x hx
    · simp at hx; omega
  have h1 : frN (frS 7 [] ++ [9]) 0 = .good 7 [] 6 := by
    have := frN_of (l := frS 7 [] ++ [9]) (a := 0) (k := 7) (p := []) (r := [9]) hb (by simp) rfl (by omega)
    rw [seven_len] at this
    exact this
  have hg : getS (frS 7 [] ++ [9]) ((6 + 1 : Nat) : Int) = (0, 0, 4) := by
    unfold getS
    rw [if_neg (by rw [hl]; omega), Int.toNat_natCast, List.drop_eq_nil_of_le (by omega)]
    rfl
  have h2 : frN (frS 7 [] ++ [9]) 6 = .bad 1 := frN_short hg (by omega) (.inl (by omega))
  unfold splitS
  rw [hl, evs_good (by omega) h1, evs_bad (by omega) h2]

theorem make_300 (wx : World) : (Instr.makeSlice 23 (.int .i64 300) (.int .i64 300)).run Tryd.prog wx = .ok (.slice (some ⟨wx.heap.size, 0, none⟩) 300 300) (wx.alloc (.cells (madeCells #[.int .u8 0] 300) 5)) := by
  obtain ⟨i0, hi, hz0, hz1, hz2⟩ := info_parts Tryd.info5
  have := run_make (P := Tryd.prog) wx 23 5 i0 (.int .u8 0) Tryd.underlying23 hi hz0 .i64 .i64 300 300 (by omega) (by omega) (by rw [hz2]; omega) (by omega)
  rw [hz1, show (Value.int .u8 0).cells = #[.int .u8 0] from rfl] at this
  simpa using this
theorem enc_300 : (enc 300).length = 2 := by rw [enc_ge (by decide), enc_lt (by decide)]; rfl

set_option maxRecDepth 100000 in
set_option maxHeartbeats 1600000 in
theorem fworks_any (w : World) (hT : Tab w) : Calls Tryd.prog 8 #[] w fun e w' => e = .returned (.bool true) ∧ Below w.heap.size w w' := by
  have hw0 := hT.1
  have G1 := fget_any w.heap.size none 0 0 [] 0 w hT Rd.zero (by simp) (by decide) (by decide) (Nat.le_refl _)
  rw [show frG [] 0 = .bad 1 from rfl] at G1
  go_enter Tryd.func8, Tryd.ntmps8
  go_wp2_with fail
  refine G1.mono ?_
  rintro e w1 ⟨rfl, hb1⟩
  clear G1
  have hc1 := hb1.alloc hb1.size (.cells #[.int .u8 0, .slice none 0 0] 25)
  have hd1 := hc1.alloc hc1.size (.cells #[.int .u8 1, .int .u8 128, .int .u8 0] 5)
  have hR2 : Rd ((w1.alloc (.cells #[.int .u8 0, .slice none 0 0] 25)).alloc (.cells #[.int .u8 1, .int .u8 128, .int .u8 0] 5)) (w1.heap.size + 2) 1 (some ⟨w1.heap.size + 1, 0, none⟩) 3 (bs [1, 128, 0]) := by
    have := Rd.own (World.ownsRow_lit (base := w1.heap.size + 1) (e := 5) (size := 1) (w1.alloc (.cells #[.int .u8 0, .slice none 0 0] 25)) #[.int .u8 1, .int .u8 128, .int .u8 0] 3 (by simp) (by decide) rfl)
    simp only [World.size_alloc] at this
    exact this
  have G2 := fget_any (w1.heap.size + 2) _ 3 3 [1, 128, 0] 0 _ (hT.below hd1 hw0) hR2 (by decide) (by decide) (by decide) (by simp)
  rw [show frG [1, 128, 0] 0 = .bad 2 from rfl] at G2
  go_wp2_with fail
  refine G2.mono ?_
  rintro e w2 ⟨rfl, hb2⟩
  have hb2 := hd1.trans (hb2.mono hd1.size)
  clear G2 hR2 hc1 hd1 hb1
  have hc2 := hb2.alloc hb2.size (.cells #[.int .u8 0, .slice none 0 0] 25)
  have hd2 := hc2.alloc hc2.size (.cells #[.int .u8 7, .slice none 0 0] 25)
  have hblk := heap_alloc_new (w2.alloc (.cells #[.int .u8 0, .slice none 0 0] 25)) (.cells #[.int .u8 7, .slice none 0 0] 25)
  rw [World.size_alloc] at hblk
  have G3 := fput_any (w2.heap.size + 2) (some ⟨w2.heap.size + 1, 0, none⟩) 1 1 [⟨7, none, 0, 0⟩] [(7, [])] _ (hT.below hd2 hw0) (fr_in_row (cs := frCells [⟨7, none, 0, 0⟩]) hblk (by omega) rfl)
    ⟨rfl, fun i f d h1 h2 => by
      cases i with
      | zero => simp at h1 h2; subst h1 h2; exact ⟨rfl, by decide, Rd.zero, by simp, by decide⟩
      | succ i => simp at h1⟩ (by simp) (by decide) (by show (frS 7 [] ++ []).length ≤ _; rw [List.append_nil, seven_len]; decide)
  rw [show frAll [(7, [])] = frS 7 [] by simp [frAll]] at G3
  have HG3 := Lib_hid G3
  clear G3 hblk
  go_wp2_with fail
  refine HG3.out.mono ?_
  rintro e w3 ⟨A3, c3, rfl, ho3, hb3⟩
  have hb3' := hd2.trans (hb3.mono hd2.size)
  have hz3 : w.heap.size ≤ (w2.alloc (.cells #[.int .u8 0, .slice none 0 0] 25)).heap.size + 1 := by have := hb2.size; simp; omega
  rw [seven_len] at ho3 ⊢
  obtain ⟨i0, hi, hz0, hz1, hz2⟩ := info_parts Tryd.info5
  have ho3' : w3.ownsRow w.heap.size 5 1 (.slice A3 6 c3) 6 (bs (frS 7 [])) := own_base ho3 fun k hk => Nat.le_trans hd2.size (own_ge ho3 k hk)
  have hm1 : 6 + 1 ≤ maxLen := by unfold maxLen; omega
  have hsB : ∀ o, w.heap.size ≤ (w3.alloc o).heap.size := by intro o; have := hb3'.size; simp; omega
  have h9b : ∀ x ∈ frS 7 [] ++ [9], x < 256 := by
    intro x hx
    rcases List.mem_append.1 hx with hx | hx
    · exact frS_byte (by decide) (by simp) x hx
    · simp at hx; omega
  have H9B := Lib_hid h9b
  clear HG3 hc2 hd2 hb2 hb3 ho3 hz3 h9b
  go_upto_region 5 with (first | (at_builtin; (refine wpList_app rfl _ _ 23 rfl w.heap.size 5 i0 (.int .u8 0) 1 1 Tryd.underlying23 hi hz0 hz1 hz2 rfl (by decide) _ 6 _ rfl (ho3'.alloc _) (w3.heap.size + 1) (some ⟨w3.heap.size, 0, none⟩) 1 1 (bs [9]) rfl (Rd.newi w3 9 9 rfl 5) (bs_one _) hm1 (by decide) (hsB _) ?_); intro v' w4 hown' hst; obtain ⟨A4, c4, rfl, _⟩ := own_form hown'; have hb4 := ((hb3'.alloc hb3'.size (.cells #[.int .u8 9] 5)).trans (hst.below (hsB _) (own_ge ho3'))); rw [← bs_append] at hown'; have hcap := own_cap hown'; have SP := split_any w4.heap.size A4 7 c4 _ w4 (hT.below hb4 hw0) (Rd.own hown') H9B.out (Nat.le_refl _) (by decide); clear hst) | (go_at_call 21; refine SP.mono ?_; rintro e w5 ⟨v5, xs, at_, r, rfl, hP, hs, hb5⟩))
  rw [seven_split] at hs
  simp only [Prod.mk.injEq] at hs
  obtain ⟨hs1, rfl, rfl⟩ := hs
  obtain ⟨x, rfl, hxa⟩ := map_one hs1
  have hxk : x.k = 7 := congrArg Prod.fst hxa
  obtain ⟨g, cap, rfl, hgw, hgl⟩ := hP.row.form (by simp)
  have q5 : w5.cell? ⟨g, 0, none⟩ = some (.int .u8 7) := by
    rw [hP.row.cellAt 0 (by show 0 < 4; omega)]
    simp [plCells, Ev.cells, hxk]
  have hb5' := hb4.trans (hb5.mono hb4.size)
  have hgl5 := own_lt hP.row g rfl
  simp only [List.length_singleton]
  have S1 := fsize_any 0 none 0 0 w5 (by decide)
  rw [show 1 + (enc 0).length + 0 + 4 = 6 by rw [enc_zero]; rfl] at S1
  have S2 := fun (A : Option Addr) (W : World) => fsize_any 0 A 300 300 W (by decide)
  rw [show 1 + (enc 300).length + 300 + 4 = 307 by rw [enc_300]] at S2
  have HS1 := Lib_hid S1
  have HS2 := Lib_hid S2
  have mk := make_300
  generalize madeCells #[.int .u8 0] 300 = mcs at mk
  clear hP hs1 hxa S1 S2 hb5 hown' SP hcap hb3' ho3' hsB hxk hgw hgl
  go_wp2_with fail
  refine HS1.out.mono ?_
  rintro e w6 ⟨rfl, hb6⟩
  have q6 := (hb6.cell (p := ⟨g, 0, none⟩) hgl5).trans q5
  have hb6' := hb5'.trans (hb6.mono hb5'.size)
  have hz6 := hb6.size
  clear q5
  go_wp2_with fail
  refine (HS2.out _ _).mono ?_
  rintro e w7 ⟨rfl, hb7⟩
  have q7 : w7.cell? ⟨g, 0, none⟩ = some (.int .u8 7) := (hb7.cell (p := ⟨g, 0, none⟩) (by simp; omega)).trans ((World.cell?_alloc_lt w6 _ ⟨g, 0, none⟩ (by show g < _; omega)).trans q6)
  have hb7' := (hb6'.alloc hb6'.size (.cells mcs 5)).trans (hb7.mono (by have := hb6'.size; simp; omega))
  clear q6 hb7 mk
  go_wp2_with fail
  go_ret
  exact ⟨rfl, hb7'⟩

end Go.Proofs.YtedglcbeheeonaaDoor
