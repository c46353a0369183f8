/-
  A text of bytes, and []byte of it; the document's join, its Put of a frame, and the frame as it has it.
-/
import Derived.Test.YtedglcbeheeonaaDoorFrf
import Derived.Test.YtedglcbeheeonaaDoorKit
import Derived.Test.YtedglcbeheeonaaDoorRsu
import Derived.Laws.IdiomStrings
import Derived.Deep.RegionHeld3
import Derived.RegionTactic
import Derived.Handy
namespace Go.Proofs.YtedglcbeheeonaaDoor
open Go Go.RowKit
set_option linter.unusedVariables false

/-- The bytes l as a text. -/
def str (l : List Nat) : ByteArray := ⟨(l.map UInt8.ofNat).toArray⟩
theorem str_size (l : List Nat) : (str l).size = l.length := by simp [str, ByteArray.size]
theorem str_cells (l : List Nat) (h : ∀ x ∈ l, x < 256) : ((str l).data.map (fun b => Value.int .u8 (b.toNat : Int))).toList = bs l := by
  simp only [str, bs, Array.toList_map, List.map_map]
  apply List.map_congr_left
  intro x hx
  have := h x hx
  simp [Nat.mod_eq_of_lt this]

/-- The capacity, and the block, of []byte of a text. -/
def capOf (l : List Nat) (W : World) : Nat := grownCap W (str l).size 0 5
def objOf (l : List Nat) (W : World) : Obj := .cells (bytesRow (str l) (capOf l W)) 5 ((bytesRow (str l) (capOf l W)).size, (bytesRow (str l) (capOf l W)).size + 1)
theorem bytes_rule (l : List Nat) (W : World) : (convert 9 23 (.string (str l))).run Tryd.prog W = .ok (.slice (some ⟨W.heap.size, 0, none⟩) l.length (capOf l W)) (W.drew.alloc (objOf l W)) := by
  rw [run_bytes_of_string W 9 23 5 (str l) Tryd.underlying9 Tryd.underlying23 Tryd.underlying5]
  unfold capOf objOf capOf
  rw [str_size]
theorem bytes_rd (l : List Nat) (hb : ∀ x ∈ l, x < 256) (W W' : World) (g B : Nat) (hh : W'.heap[g]? = some (objOf l W)) (hB : g < B) : Rd W' B 1 (some ⟨g, 0, none⟩) l.length (bs l) := by
  refine ⟨by rw [bs_length]; simp, fun _ => ⟨_, rfl, hB, fun j u hu => ?_⟩⟩
  have hj : j < l.length := by have := (List.getElem?_eq_some_iff.1 hu).1; rwa [bs_length] at this
  rw [add_plain, Nat.zero_add]
  unfold World.cell?
  simp only [hh, objOf]
  have hc := str_cells l hb
  have : (bytesRow (str l) (capOf l W))[j]? = some u := by
    unfold bytesRow
    rw [Array.getElem?_append_left (by simp only [Array.size_map]; show j < (str l).size; rw [str_size]; exact hj)]
    rw [← Array.getElem?_toList, hc]
    exact hu
  rw [this]
  rfl
theorem capOf_le (l : List Nat) (W : World) (h : l.length ≤ 3000) : l.length ≤ capOf l W ∧ capOf l W ≤ 9223372036854775807 := by
  unfold capOf
  rw [str_size]
  have := grownCap_le_maxLen W l.length 0 5 (by unfold maxLen; omega)
  unfold maxLen at this
  exact ⟨grownCap_ge _ _ _ _, by omega⟩


set_option maxRecDepth 100000 in
theorem join_any (B B' : Nat) (A A' : Option Addr) (n n' c c' : Nat) (l l' : List Nat) (w : World) (h : Rd w B 1 A n (bs l)) (h' : Rd w B' 1 A' n' (bs l')) (hB : B ≤ w.heap.size) (hB' : B' ≤ w.heap.size) (hn : n ≤ 1000000000) (hn' : n' ≤ 1000000000) :
    Calls Tryd.prog 25 #[.slice A n c, .slice A' n' c'] w (Made 5 (l ++ l') w) := by
  obtain ⟨i0, hi, hz0, hz1, hz2⟩ := info_parts Tryd.info5
  have hm1 : 0 + n ≤ maxLen := by unfold maxLen; omega
  have hm2 : (0 + n) * 1 ≤ 140737488355328 := by omega
  have hm3 : n + n' ≤ maxLen := by unfold maxLen; omega
  have hm4 : (n + n') * 1 ≤ 140737488355328 := by omega
  have H' := fun (W : World) (hb : Below w.heap.size w W) => h'.below (hb.mono hB')
  have HH' := Lib_hid H'
  clear h' H'
  go_enter Tryd.func25, Tryd.ntmps25
  go_upto_region 3 with (at_builtin; (refine wpList_app rfl _ _ 23 rfl w.heap.size 5 i0 (.int .u8 0) 1 1 Tryd.underlying23 hi hz0 hz1 hz2 rfl (by decide) _ 0 [] rfl (own_none w w.heap.size _) B A n c (bs l) rfl h (bs_one _) hm1 hm2 (Nat.le_refl _) ?_); intro v' w1 hown' hst; simp only [Nat.zero_add, List.nil_append] at hown'; obtain ⟨A1, c1, rfl, _⟩ := own_form hown')
  have hb1 := hst.below (Nat.le_refl _) (fun k hk => by cases hk)
  clear hst h
  go_wp2_with (at_builtin; (refine wpList_app rfl _ _ 23 rfl w.heap.size 5 i0 (.int .u8 0) 1 1 Tryd.underlying23 hi hz0 hz1 hz2 rfl (by decide) _ n _ rfl hown' B' A' n' c' (bs l') rfl (HH'.out w1 hb1) (bs_one _) hm3 hm4 hb1.size ?_); intro v' w2 hown2 hst; obtain ⟨A2, c2, rfl, _⟩ := own_form hown2)
  go_ret
  rw [made_iff]
  exact ⟨A2, _, c2, rfl, by rw [bs_append]; exact hown2, hb1.trans (hst.below hb1.size (own_ge hown'))⟩

set_option maxRecDepth 100000 in
set_option maxHeartbeats 1600000 in
theorem rfput_any (k : Nat) (p : List Nat) (w : World) (hk : k < 256) (hp : ∀ x ∈ p, x < 256) (hn : p.length ≤ 3000) :
    Calls Tryd.prog 10 #[.agg #[.int .u8 (k : Int), .string (str p)]] w (Made 5 (frS k p) w) := by
  have hsz := str_size p
  have hpl : p.length ≤ 3000 := hn
  have HB := Lib_hid hp
  have HBY := bytes_rule p
  have HRD := bytes_rd p hp
  have HCL := fun W => capOf_le p W hn
  have HE : Hid (enc (str p).size = enc p.length) := by unfold Hid; rw [hsz]
  have hs1 : (str p).size ≤ 3000 := by omega
  have hs2 : ((str p).size : Int) ≤ 3000 := by omega
  have hs3 : (0 : Int) ≤ ((str p).size : Int) := by omega
  have hwr : IntKind.u64.wrap ((str p).size : Int) = ((str p).size : Int) := by rw [show IntKind.u64.wrap ((str p).size : Int) = ((str p).size : Int) % 18446744073709551616 by simp [IntKind.wrap, IntKind.bits, IntKind.signed]]; omega
  have HRD' := Lib_hid HRD
  have HCL' := Lib_hid HCL
  obtain ⟨i0, hi, hz0, hz1, hz2⟩ := info_parts Tryd.info5
  clear hsz hp HRD HCL hn
  generalize str p = s at *
  have hten := enc_ten (v := s.size) (by omega)
  have RP := fun W => rput_any 10 s.size W hten (by omega) (by omega)
  have HRP := Lib_hid RP
  clear RP
  have hbx := below_new w (.cells #[.int .u8 (k : Int), .string s] 30)
  have hhx := heap_alloc_new w (.cells #[.int .u8 (k : Int), .string s] 30)
  go_enter Tryd.func10, Tryd.ntmps10
  go_upto_region 1 with (fail)
  generalize w.alloc (.cells #[.int .u8 (k : Int), .string s] 30) = W0 at *
  have hl0 := (Array.getElem?_eq_some_iff.1 hhx).1
  have S0 : Hid (∀ W : World, Below W0.heap.size W0 W → W.cell? ⟨w.heap.size, 0, none⟩ = some (.int .u8 (k : Int)) ∧ W.cell? ⟨w.heap.size, 1, none⟩ = some (.string s)) := fun W hW =>
    ⟨(hW.cell (p := ⟨w.heap.size, 0, none⟩) hl0).trans (cell_of_row W0 _ 0 _ _ _ hhx), (hW.cell (p := ⟨w.heap.size, 1, none⟩) hl0).trans (cell_of_row W0 _ 1 _ _ _ hhx)⟩
  obtain ⟨m1, hm1⟩ : ∃ m, m = ([k] ++ enc s.size).length := ⟨_, rfl⟩
  have hm1' : m1 ≤ 3000 := by rw [hm1, List.length_append]; simp; omega
  have HM1 : Hid (m1 = 1 + (enc p.length).length) := by unfold Hid; rw [hm1, HE.out]; simp; omega
  have JN : Hid (∀ (W : World) (g : Nat) (A9 : Option Addr) (c9 : Nat), Below W0.heap.size W0 W → Rd W W.heap.size 1 (some ⟨g, 0, none⟩) 1 (bs [k]) → Rd W W.heap.size 1 A9 (enc s.size).length (bs (enc s.size)) →
      Calls Tryd.prog 25 #[.slice (some ⟨g, 0, none⟩) 1 1, .slice A9 (enc s.size).length c9] W fun e w' => ∃ A c, e = .returned (.slice A m1 c) ∧ w'.ownsRow W0.heap.size 5 1 (.slice A m1 c) m1 (bs ([k] ++ enc p.length)) ∧ Below W0.heap.size W0 w') := fun W g A9 c9 hW h1 h2 =>
    (join_any W.heap.size W.heap.size _ A9 1 _ 1 c9 [k] (enc s.size) W h1 h2 (Nat.le_refl _) (Nat.le_refl _) (by omega) (by omega)).mono fun e w' ⟨A, c, h3, h4, h5⟩ => ⟨A, c, by rw [hm1]; exact h3, by rw [hm1, ← HE.out]; exact own_base h4 fun j hj => Nat.le_trans hW.size (own_ge h4 j hj), hW.trans (h5.mono hW.size)⟩
  clear hm1
  go_region_held3 (fun W => W.cell? ⟨w.heap.size, 0, none⟩ = some (.int .u8 (k : Int)) ∧ W.cell? ⟨w.heap.size, 1, none⟩ = some (.string s)) (first | exact S0.out _ (below_like (Below.refl _ _) rfl rfl rfl rfl) | exact S0.out _ (below_like (below_new _ _) rfl rfl rfl rfl) | exact S0.out _ (below_like hb9 rfl rfl rfl rfl) | exact S0.out _ (below_like (hb9.alloc hb9.size _) rfl rfl rfl rfl) | exact S0.out _ (below_like hb10 rfl rfl rfl rfl))
    ((first | (go_at_call 26; ((with_reducible refine (HRP.out W0.drew).mono ?_); rintro e w9 ⟨A9, c9, rfl, ho9, hb9'⟩; have hb9 : Below W0.heap.size W0 w9 := ⟨hb9'.os, hb9'.tape, hb9'.output, hb9'.size, hb9'.block⟩)) | (go_at_call 26; ((with_reducible refine (HRP.out (W0.alloc (.cells #[.int .u8 (k : Int)] 5)).drew).mono ?_); rintro e w9 ⟨A9, c9, rfl, ho9, hb9'⟩; have hb8 : Below (W0.heap.size + 1) (W0.alloc (.cells #[.int .u8 (k : Int)] 5)) w9 := ⟨hb9'.os, hb9'.tape, hb9'.output, hb9'.size, fun i hi => hb9'.block i (by simpa using hi)⟩; have hk9 := ((Rd.newi W0 k k rfl 5).below hb8).more (B' := w9.heap.size) (by have := hb8.size; simpa using this); have hb9 := (below_new W0 _).trans (hb8.mono (by omega)))) | (go_at_call 25; refine (JN.out w9 _ _ _ hb9 hk9 (Rd.own ho9)).mono ?_; rintro e w10 ⟨A10, c10, rfl, ho10, hb10⟩) | (go_at_call 25; refine (JN.out (w9.alloc (.cells #[.int .u8 (k : Int)] 5)) _ _ _ (hb9.alloc hb9.size _) ((Rd.newi w9 k k rfl _).more (by simp)) (((Rd.own ho9).below (below_new w9 _)).more (by simp))).mono ?_; rintro e w10 ⟨A10, c10, rfl, ho10, hb10⟩)))
  all_goals
    have q10 := S0.out w10 hb10
    have hz10 := hb10.size
    have hw0 := hbx.size
    have hbw := hbx.trans (hb10.mono hbx.size)
    have JM : Hid (∀ (W : World) (A2 : Option Addr) (c2 : Nat), Below w10.heap.size w10 W → Rd W W.heap.size 1 A2 p.length (bs p) → Calls Tryd.prog 25 #[.slice A10 m1 c10, .slice A2 p.length c2] W (fun e w' => ∃ A c, e = .returned (.slice A (m1 + p.length) c) ∧ w'.ownsRow w.heap.size 5 1 (.slice A (m1 + p.length) c) (m1 + p.length) (bs (frB k p)) ∧ Below w.heap.size w w')) := fun W A2 c2 hW h2 =>
      (join_any w10.heap.size W.heap.size A10 A2 _ _ c10 c2 ([k] ++ enc p.length) p W ((Rd.own ho10).below hW) h2 hW.size (Nat.le_refl _) (by omega) (by omega)).mono fun e w' ⟨A, c, h3, h4, h5⟩ => by
        rw [show ([k] ++ enc p.length ++ p).length = m1 + p.length by rw [HM1.out]; simp; omega] at h3 h4
        rw [show [k] ++ enc p.length ++ p = frB k p by simp [frB]] at h4
        have hw := hbw.trans (hW.mono (by have := hbw.size; omega))
        exact ⟨A, c, h3, own_base h4 fun j hj => Nat.le_trans hw.size (own_ge h4 j hj), hw.trans (h5.mono hw.size)⟩
    clear S0 JN HRP hb9 ho9 hhx hbx hb10
    go_upto_region 2 with (fail)
    have hbo := below_new w10 (objOf p w10)
    have hrp : Rd (w10.drew.alloc (objOf p w10)) (w10.heap.size + 1) 1 (some ⟨w10.heap.size, 0, none⟩) p.length (bs p) := HRD'.out w10 (w10.drew.alloc (objOf p w10)) w10.heap.size (w10.heap.size + 1) (heap_alloc_new w10.drew _) (by omega)
    have JX := JM.out (w10.drew.alloc (objOf p w10)) _ (capOf p w10) (below_like hbo rfl rfl rfl rfl) (hrp.more (by rw [World.size_alloc]; exact Nat.le_refl _))
    have q11 : (w10.drew.alloc (objOf p w10)).cell? ⟨w.heap.size, 1, none⟩ = some (.string s) := (hbo.cell (p := ⟨w.heap.size, 1, none⟩) (by show w.heap.size < _; omega)).trans q10.2
    have q12 := q10.2
    have HJX := Lib_hid JX
    clear JX hrp hbo JM HRD' q10 ho10
    go_wp2_with fail
    refine HJX.out.mono ?_
    rintro e w11 ⟨A11, c11, rfl, ho11, hb11⟩
    have hcap11 := own_cap ho11
    have SM := rsum_any w11.heap.size A11 (m1 + p.length) c11 _ w11 (Rd.own ho11) (frB_byte hk HB.out) (Nat.le_refl _) (by omega)
    have hcl := crcN_lt (frB k p)
    have e4 : Hid (bs (le4 (crcN (frB k p))) = [.int .u8 ((crcN (frB k p) : Int) % 256), .int .u8 ((crcN (frB k p) : Int) / 256 % 256), .int .u8 ((crcN (frB k p) : Int) / 65536 % 256), .int .u8 ((crcN (frB k p) : Int) / 16777216)]) := by
      unfold Hid; simp [bs, le4]; omega
    have HSM := Lib_hid SM
    clear SM HJX q11 q12
    go_wp2_with fail
    refine HSM.out.mono ?_
    rintro e w12 ⟨rfl, hb12⟩
    have ho12 := own_below ho11 hb12 (own_lt ho11)
    have hbw12 := hb11.trans (hb12.mono hb11.size)
    have HF : Hid (frS k p = frB k p ++ le4 (crcN (frB k p))) := Lib_hid rfl
    generalize crcN (frB k p) = sm at *
    have hm5 : m1 + p.length + 4 ≤ maxLen := by unfold maxLen; omega
    have hm6 : (m1 + p.length + 4) * 1 ≤ 140737488355328 := by omega
    have hnew : Rd (w12.alloc (.cells #[.int .u8 ((sm : Int) % 256), .int .u8 ((sm : Int) / 256 % 256), .int .u8 ((sm : Int) / 65536 % 256), .int .u8 ((sm : Int) / 16777216)] 5)) (w12.heap.size + 1) 1 (some ⟨w12.heap.size, 0, none⟩) 4 (bs (le4 sm)) := by
      rw [e4.out]
      have := Rd.own (World.ownsRow_lit (base := w12.heap.size) (e := 5) (size := 1) w12 #[.int .u8 ((sm : Int) % 256), .int .u8 ((sm : Int) / 256 % 256), .int .u8 ((sm : Int) / 65536 % 256), .int .u8 ((sm : Int) / 16777216)] 4 (Nat.le_refl _) (by decide) rfl)
      rwa [World.size_alloc] at this
    have hsB : ∀ o, w.heap.size ≤ (w12.alloc o).heap.size := by intro o; have := hbw12.size; simp; omega
    clear HSM ho11 hb11 hb12 hbw
    go_wp2_with (at_builtin; (refine wpList_app rfl _ _ 23 rfl w.heap.size 5 i0 (.int .u8 0) 1 1 Tryd.underlying23 hi hz0 hz1 hz2 rfl (by decide) _ (m1 + p.length) _ rfl (ho12.alloc _) (w12.heap.size + 1) (some ⟨w12.heap.size, 0, none⟩) 4 4 (bs (le4 sm)) rfl hnew (bs_one _) hm5 hm6 (hsB _) ?_); intro v' w13 hown' hst; obtain ⟨A13, c13, rfl, _⟩ := own_form hown')
    go_ret
    rw [made_iff]
    exact ⟨A13, _, c13, rfl, by rw [HF.out, bs_append]; exact hown', (hbw12.alloc hbw12.size _).trans (hst.below (hsB _) (own_ge ho12))⟩

end Go.Proofs.YtedglcbeheeonaaDoor
