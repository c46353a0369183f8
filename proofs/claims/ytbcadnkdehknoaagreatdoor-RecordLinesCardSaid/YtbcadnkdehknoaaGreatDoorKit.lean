/-
  The contract of the document's Put, for every input.
-/
import Derived.Test.YtbcadnkdehknoaaGreatDoorPut
import Derived.Test.YtbcadnkdehknoaaGreatDoorHlp
namespace Go.Proofs.YtbcadnkdehknoaaGreatDoor
open Go Go.RowKit
set_option linter.unusedVariables false

set_option maxRecDepth 100000 in
theorem rput_any (k : Nat) : ∀ (v : Nat) (w : World), (enc v).length ≤ k → k ≤ 10 → (v : Int) ≤ 18446744073709551615 →
    Calls Tryz.prog 73 #[.int .u64 v] w (Made 5 (enc v) w) := by
  induction k with
  | zero => intro v w h; have := enc_pos v; omega
  | succ k ih =>
    intro v w h hk hv
    by_cases hs : v < 128
    · have hx : Calls Tryz.prog 73 #[.int .u64 v] w fun e w' => e = .returned (.slice (some ⟨w.heap.size, 0, none⟩) 1 1) ∧ w' = w.alloc (.cells #[.int .u8 (v : Int)] 5) := by
        go_enter Tryz.func73, Tryz.ntmps73
        go_wp2_with fail
        go_ret
        exact ⟨rfl, rfl⟩
      refine hx.mono ?_
      rintro e w' ⟨rfl, rfl⟩
      rw [enc_lt hs]
      exact ⟨_, 1, rfl, own_new1 w _ v rfl _, (Below.refl _ _).alloc (Nat.le_refl _) _⟩
    · have he := enc_ge (v := v) (by omega)
      have hc : (v : Int) % 128 + 128 = ((v % 128 + 128 : Nat) : Int) := by omega
      have hlen : (enc (v / 128)).length ≤ k := by rw [he] at h; simpa using h
      have hpos := enc_pos (v / 128)
      have hq : ((v / 128 : Nat) : Int) ≤ 18446744073709551615 := by omega
      have IH := ih (v / 128) (w.alloc (.cells #[.int .u8 ((v : Int) % 128 + 128)] 5)) hlen (by omega) hq
      have hO := own_new1 w _ _ hc 5
      obtain ⟨i0, hi, hz0, hz1, hz2⟩ := info_parts Tryz.info5
      have HE : Hid (enc v = (v % 128 + 128) :: enc (v / 128)) := he
      have hm1 : 1 + (enc (v / 128)).length ≤ maxLen := by unfold maxLen; omega
      have hm2 : (1 + (enc (v / 128)).length) * 1 ≤ 140737488355328 := by omega
      clear ih hc he h
      go_enter Tryz.func73, Tryz.ntmps73
      go_wp2_with (first | (go_at_call 73; refine IH.mono ?_; rintro e w1 ⟨A1, c1, rfl, ho1, hb1⟩) | (at_builtin; (refine wpList_app rfl _ _ 46 rfl w.heap.size 5 i0 (.int .u8 0) 1 1 Tryz.underlying46 hi hz0 hz1 hz2 rfl (by decide) _ 1 _ rfl (own_below hO hb1 (own_lt hO)) w1.heap.size A1 (enc (v / 128)).length c1 (bs (enc (v / 128))) rfl (Rd.own ho1) (bs_one _) hm1 hm2 (alloc_le hb1) ?_); intro v2 w2 hown' hst; obtain ⟨A2, c2, rfl, _⟩ := own_form hown'))
      go_ret
      rw [HE.out, show ((v % 128 + 128) :: enc (v / 128)) = [v % 128 + 128] ++ enc (v / 128) from rfl, made_iff]
      refine ⟨A2, _, c2, rfl, by rw [bs_append]; exact hown', ?_⟩
      exact ((Below.refl _ _).alloc (Nat.le_refl _) _).trans ((hb1.mono (by simp)).trans (hst.below (alloc_le hb1) (fun k hk => by have h9 : w.heap.size = k := (by injection hk); omega)))

end Go.Proofs.YtbcadnkdehknoaaGreatDoor
