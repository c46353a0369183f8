/-
  The contract of the statements' helper joined (layer 2), for all rows of bytes.
-/
import Derived.Test.YtaidegnjegmfdabDoorSum
import Derived.Handy
namespace Go.Proofs.YtaidegnjegmfdabDoor
open Go Go.RowKit
set_option linter.unusedVariables false

theorem flat_le' {ls : List (List Nat)} (k : Nat) : (ls.take k).flatten.length ≤ ls.flatten.length := by
  have h : ls.flatten = (ls.take k).flatten ++ (ls.drop k).flatten := by rw [← List.flatten_append, List.take_append_drop]
  rw [h, List.length_append]
  omega

/-- Rows that are few, and short together. -/
def jOk (ls : List (List Nat)) : Prop := ls.length ≤ 20 ∧ ls.flatten.length ≤ 400

set_option maxRecDepth 100000 in
theorem joined_yes (B : Nat) (A : Option Addr) (n c : Nat) (vs : List Value) (ls : List (List Nat)) (w : World) (hrd : Rd w B 1 A n vs) (hR : Rws w B vs ls) (hB : B ≤ w.heap.size) (hok : jOk ls) :
    Calls Tryd.prog 8 #[.slice A n c] w fun e w' => ∃ A' c', e = .returned (.tuple #[.slice A' ls.flatten.length c', .bool true]) ∧ w'.ownsRow w.heap.size 5 1 (.slice A' ls.flatten.length c') ls.flatten.length (bs ls.flatten) ∧ Below w.heap.size w w' := by
  have hl : ls.length = n := by have := hrd.len; have := hR.len; omega
  have hn20 : n ≤ 20 := by have := hok.1; omega
  have HL := Lib_hid hl
  have HF := Lib_hid hok.2
  clear hl hok
  obtain ⟨i0, hi, hz0, hz1, hz2⟩ := info_parts Tryd.info5
  have d20 : decide ((n : Int) ≤ 20) = true := by simp; omega
  go_enter Tryd.func8, Tryd.ntmps8
  go_wp2
  go_loopw [4, 5] (fun v i wr => ∃ (k n' c' : Nat) (A' : Option Addr), i = .int .i64 k ∧ k ≤ n ∧ v = .slice A' n' c' ∧ wr.ownsRow w.heap.size 5 1 (.slice A' n' c') n' (bs (ls.take k).flatten) ∧ Below w.heap.size w wr) (fun _ i _ => n - (intOf i).toNat)
  case atStart => exact ⟨0, 0, 0, none, rfl, Nat.zero_le _, rfl, World.ownsRow_nil _ _ _ _, Below.refl _ _⟩
  case round =>
    obtain ⟨k, n', c', A', rfl, hk, rfl, ho, hbw⟩ := hrel
    have hcn : (ls.take k).flatten.length = n' := by have := ho.1; rw [bs_length] at this; omega
    by_cases hlt : k < n
    · obtain ⟨ad, A2, n2, c2, rfl, hcell, hrow, hb, hnc, hc⟩ := (hR.below (hbw.mono hB)).at (hrd.below (hbw.mono hB)) hlt
      have hcount := hrow.count
      have e := flatten_next (ls := ls) (k := k) (by rw [HL.out]; exact hlt)
      have hle := Nat.le_trans (flat_le' (ls := ls) (k + 1)) HF.out
      rw [e, List.length_append, hcount, hcn] at hle
      have hm1 : n' + n2 ≤ maxLen := by unfold maxLen; omega
      have hm2 : (n' + n2) * 1 ≤ 140737488355328 := by omega
      have E2 := Lib_hid e
      have hx1 : n' ≤ 400 := by omega
      have hx2 : n2 ≤ 400 := by omega
      have d1 : decide (400 < (n2 : Int)) = false := by simp; omega
      have d2 : decide (400 < (n' : Int)) = false := by simp; omega
      clear e hcount hcn hb
      go_wp2_with (at_builtin; (refine wpList_app rfl _ _ 23 rfl w.heap.size 5 i0 (.int .u8 0) 1 1 Tryd.underlying23 hi hz0 hz1 hz2 rfl (by decide) _ n' _ rfl ho B A2 n2 c2 _ rfl hrow (bs_one _) hm1 hm2 hbw.size ?_); intro v' w2 hown' hst; obtain ⟨A3, c3, rfl, _⟩ := own_form hown')
      have hb2 : Below w.heap.size w w2 := hbw.trans (hst.below hbw.size (own_ge ho))
      rw [← bs_append, ← E2.out] at hown'
      clear hst ho hrow E2
      go_wp2
      go_roundw
      case rel => exact ⟨k + 1, _, c3, A3, by go_num, by omega, rfl, hown', hb2⟩
      case measure => simp [intOf]; omega
    · obtain rfl : k = n := by omega
      have e : ls.take k = ls := List.take_of_length_le (by rw [HL.out]; exact Nat.le_refl _)
      rw [e] at ho hcn
      have h400 := HF.out
      rw [hcn] at h400
      have HC := Lib_hid hcn
      have d4 : decide ((n' : Int) ≤ 400) = true := by simp; omega
      clear e hcn
      go_wp2
      go_ret2
      rw [HC.out]
      exact ⟨A', c', rfl, ho, hbw⟩

set_option maxRecDepth 100000 in
theorem joined_no (B : Nat) (A : Option Addr) (n c : Nat) (vs : List Value) (ls : List (List Nat)) (w : World) (hrd : Rd w B 1 A n vs) (hR : Rws w B vs ls) (hB : B ≤ w.heap.size) (hnm : n ≤ 9223372036854775807) (hok : ¬ jOk ls) :
    Calls Tryd.prog 8 #[.slice A n c] w fun e w' => ∃ A' n' c', e = .returned (.tuple #[.slice A' n' c', .bool false]) ∧ Below w.heap.size w w' := by
  have hl : ls.length = n := by have := hrd.len; have := hR.len; omega
  have HL := Lib_hid hl
  have HK := Lib_hid hok
  clear hl hok
  obtain ⟨i0, hi, hz0, hz1, hz2⟩ := info_parts Tryd.info5
  go_enter Tryd.func8, Tryd.ntmps8
  go_wp2
  go_loopw [4, 5] (fun v i wr => ∃ (k n' c' : Nat) (A' : Option Addr), i = .int .i64 k ∧ k ≤ n ∧ k ≤ 21 ∧ v = .slice A' n' c' ∧ n' ≤ 800 ∧ wr.ownsRow w.heap.size 5 1 (.slice A' n' c') n' (bs (ls.take k).flatten) ∧ Below w.heap.size w wr) (fun _ i _ => n - (intOf i).toNat)
  case atStart => exact ⟨0, 0, 0, none, rfl, Nat.zero_le _, by omega, rfl, by omega, World.ownsRow_nil _ _ _ _, Below.refl _ _⟩
  case round =>
    obtain ⟨k, n', c', A', rfl, hk, hk21, rfl, hn800, ho, hbw⟩ := hrel
    have hcn : (ls.take k).flatten.length = n' := by have := ho.1; rw [bs_length] at this; omega
    by_cases hlt : k < n
    · by_cases hlt2 : k < 21
      · obtain ⟨ad, A2, n2, c2, rfl, hcell, hrow, hb, hnc, hc⟩ := (hR.below (hbw.mono hB)).at (hrd.below (hbw.mono hB)) hlt
        by_cases hx2 : 400 < n2
        · have d1 : decide (400 < (n2 : Int)) = true := by simp; omega
          clear hcn hrow hb
          go_wp2
          go_ret2
          exact ⟨none, 0, 0, rfl, hbw⟩
        · have d1 : decide (400 < (n2 : Int)) = false := by simp; omega
          by_cases hx1 : 400 < n'
          · have d2 : decide (400 < (n' : Int)) = true := by simp; omega
            clear hcn hrow hb
            go_wp2
            go_ret2
            exact ⟨none, 0, 0, rfl, hbw⟩
          · have d2 : decide (400 < (n' : Int)) = false := by simp; omega
            have e := flatten_next (ls := ls) (k := k) (by rw [HL.out]; exact hlt)
            have hm1 : n' + n2 ≤ maxLen := by unfold maxLen; omega
            have hm2 : (n' + n2) * 1 ≤ 140737488355328 := by omega
            have E2 := Lib_hid e
            clear e hcn hb
            go_wp2_with (at_builtin; (refine wpList_app rfl _ _ 23 rfl w.heap.size 5 i0 (.int .u8 0) 1 1 Tryd.underlying23 hi hz0 hz1 hz2 rfl (by decide) _ n' _ rfl ho B A2 n2 c2 _ rfl hrow (bs_one _) hm1 hm2 hbw.size ?_); intro v' w2 hown' hst; obtain ⟨A3, c3, rfl, _⟩ := own_form hown')
            have hb2 : Below w.heap.size w w2 := hbw.trans (hst.below hbw.size (own_ge ho))
            rw [← bs_append, ← E2.out] at hown'
            clear hst ho hrow E2
            go_wp2
            go_roundw
            case rel => exact ⟨k + 1, _, c3, A3, by go_num, by omega, by omega, rfl, by omega, hown', hb2⟩
            case measure => simp [intOf]; omega
      · have d20 : decide ((n : Int) ≤ 20) = false := by simp; omega
        clear hcn
        go_wp2
        go_ret2
        exact ⟨A', n', c', rfl, hbw⟩
    · obtain rfl : k = n := by omega
      have e : ls.take k = ls := List.take_of_length_le (by rw [HL.out]; exact Nat.le_refl _)
      rw [e] at hcn
      by_cases h20 : k ≤ 20
      · have h400 : 400 < n' := by
          rcases Nat.lt_or_ge 400 n' with h | h
          · exact h
          · exact absurd ⟨by rw [HL.out]; exact h20, by rw [hcn]; exact h⟩ HK.out
        have d20 : decide ((k : Int) ≤ 20) = true := by simp; omega
        have d4 : decide ((n' : Int) ≤ 400) = false := by simp; omega
        clear hcn e
        go_wp2
        go_ret2
        exact ⟨A', n', c', rfl, hbw⟩
      · have d20 : decide ((k : Int) ≤ 20) = false := by simp; omega
        clear hcn e
        go_wp2
        go_ret2
        exact ⟨A', n', c', rfl, hbw⟩

end Go.Proofs.YtaidegnjegmfdabDoor
