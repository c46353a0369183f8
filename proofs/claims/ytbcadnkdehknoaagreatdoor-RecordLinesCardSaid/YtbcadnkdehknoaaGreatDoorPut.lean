/-
  Contracts of the program's varint.ends, varint.Size, varint.stand and varint.Put, for every input.
-/
import Derived.Test.YtbcadnkdehknoaaGreatDoorMa
import Derived.Test.YtbcadnkdehknoaaGreatDoorBse
namespace Go.Proofs.YtbcadnkdehknoaaGreatDoor
open Go Go.RowKit
set_option linter.unusedVariables false

theorem ends_any (c i : Nat) (w : World) (hc : c < 256) (hi : i < 100) :
    Calls Tryz.prog 194 #[.int .u8 c, .int .i64 i] w fun e w' => e = .returned (.bool (mayEnd c i)) ∧ w = w' := by
  have b9 := int_beq i 9
  have b1 := int_beq c 1
  have b0 := int_bne c 0
  have bi := int_beq i 0
  by_cases h9 : i = 9
  · subst h9
    go_enter Tryz.func194, Tryz.ntmps194
    go_wp2
    go_ret
    exact ⟨by simp only [mayEnd, if_true]; rw [← b1]; rfl, rfl⟩
  · have f9 : ((i : Int) == 9) = false := by rw [show (9 : Int) = ((9 : Nat) : Int) from rfl, b9]; simpa using h9
    by_cases h0 : c = 0
    · subst h0
      go_enter Tryz.func194, Tryz.ntmps194
      go_wp2
      go_ret
      exact ⟨by simp only [mayEnd, if_neg h9]; rw [← bi]; rfl, rfl⟩
    · have f0 : ((c : Int) != 0) = true := by rw [show (0 : Int) = ((0 : Nat) : Int) from rfl, b0]; simpa using h0
      clear b9 b1 b0 bi
      go_enter Tryz.func194, Tryz.ntmps194
      go_wp2
      go_ret
      exact ⟨by simp [mayEnd, h9, h0], rfl⟩


set_option maxRecDepth 100000 in
theorem stand_any (B : Nat) (A : Option Addr) (n c : Nat) (xs : List Value) (v : Nat) (w : World) (hv : (v : Int) ≤ 18446744073709551615)
    (hown : w.ownsRow B 5 1 (.slice A n c) n xs) (hB : B ≤ w.heap.size) (hn : n ≤ 140737488355300) :
    Calls Tryz.prog 167 #[.slice A n c, .int .u64 v] w (Grew 5 B (.slice A n c) (xs ++ bs (enc v)) w) := by
  have hten := enc_ten (v := v) (by omega)
  obtain ⟨i0, hi, hz0, hz1, hz2⟩ := info_parts Tryz.info5
  go_enter Tryz.func167, Tryz.ntmps167
  go_wp2
  go_loopw [0, 1] (fun b x wr => ∃ (y : Nat) (l : List Nat) (A' : Option Addr) (n' c' : Nat), x = .int .u64 y ∧ b = .slice A' n' c' ∧ (y : Int) ≤ 18446744073709551615 ∧ enc v = l ++ enc y ∧ n' = n + l.length ∧
      wr.ownsRow B 5 1 (.slice A' n' c') n' (xs ++ bs l) ∧ Stp w wr (.slice A n c) (.slice A' n' c')) (fun _ x _ => (intOf x).toNat)
  case atStart => exact ⟨v, [], A, n, c, rfl, rfl, hv, rfl, rfl, by simpa [bs] using hown, Stp.refl _ _⟩
  case round =>
    obtain ⟨y, l, A', n', c', rfl, rfl, h3, h4, h5, h6, h7⟩ := hrel
    have hl : l.length + (enc y).length ≤ 10 := by rw [h4] at hten; simpa using hten
    have hpos := enc_pos y
    have hsz := h7.grow.size
    have hb' : n' ≤ 140737488355309 := by omega
    have H5 : Hid (n' = n + l.length) := h5
    have H4 : Hid (enc v = l ++ enc y) := h4
    have hm1 : n' + 1 ≤ maxLen := by unfold maxLen; omega
    have hm2 : (n' + 1) * 1 ≤ 140737488355328 := by omega
    have hsB : ∀ o, B ≤ (wr.alloc o).heap.size := by intro o; simp; omega
    clear h5 h4
    by_cases hy : y < 128
    · go_wp2_with (at_builtin; (refine wpList_app rfl _ _ 46 rfl B 5 i0 (.int .u8 0) 1 1 Tryz.underlying46 hi hz0 hz1 hz2 rfl (by decide) _ n' _ rfl (h6.alloc _) (wr.heap.size + 1) (some ⟨wr.heap.size, 0, none⟩) 1 1 (bs [y]) rfl (Rd.new1 wr y 5) (bs_one _) hm1 hm2 (hsB _) ?_); intro v' w1 hown' hst)
      obtain ⟨A2, c2, rfl, _⟩ := own_form hown'
      go_wp2
      go_ret
      refine ⟨A2, n' + 1, c2, rfl, ?_, h7.trans ((Stp.alloc _ _ _).trans hst)⟩
      rw [H4.out, enc_lt hy, bs_append, ← List.append_assoc]
      exact hown'
    · have he := enc_ge (v := y) (by omega)
      have hc : (y : Int) % 128 + 128 = ((y % 128 + 128 : Nat) : Int) := by omega
      have HC : Hid ((y : Int) % 128 + 128 = ((y % 128 + 128 : Nat) : Int)) := hc
      have HE : Hid (enc y = (y % 128 + 128) :: enc (y / 128)) := he
      clear hc he
      go_wp2_with (at_builtin; (refine wpList_app rfl _ _ 46 rfl B 5 i0 (.int .u8 0) 1 1 Tryz.underlying46 hi hz0 hz1 hz2 rfl (by decide) _ n' _ rfl (h6.alloc _) (wr.heap.size + 1) (some ⟨wr.heap.size, 0, none⟩) 1 1 (bs [y % 128 + 128]) rfl (Rd.newi wr _ _ HC.out 5) (bs_one _) hm1 hm2 (hsB _) ?_); intro v' w1 hown' hst)
      obtain ⟨A2, c2, rfl, _⟩ := own_form hown'
      have hst2 := h7.trans ((Stp.alloc _ _ _).trans hst)
      clear hst h7
      go_wp2
      go_roundw
      case rel => exact ⟨y / 128, l ++ [y % 128 + 128], A2, n' + 1, c2, by go_num, rfl, by omega, by rw [H4.out, HE.out]; simp, by rw [H5.out]; simp; omega, by rw [bs_append, ← List.append_assoc]; exact hown', hst2⟩
      case measure => simp [intOf]; omega

theorem put_any (v : Nat) (w : World) (hv : (v : Int) ≤ 18446744073709551615) :
    Calls Tryz.prog 198 #[.int .u64 v] w (Made 5 (enc v) w) := by
  go_enter Tryz.func198, Tryz.ntmps198
  go_wp2_with (go_at_call 167; refine (stand_any w.heap.size none 0 0 [] v w hv (own_none _ _ _) (Nat.le_refl _) (by omega)).mono ?_; rintro e w' ⟨A, n, c, rfl, ho, hs⟩)
  go_ret
  exact made_of_grew ⟨A, n, c, rfl, ho, hs⟩

end Go.Proofs.YtbcadnkdehknoaaGreatDoor
