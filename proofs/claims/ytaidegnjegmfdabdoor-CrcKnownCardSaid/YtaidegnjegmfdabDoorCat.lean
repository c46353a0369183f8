/-
  Contracts of the library's slices.Grow (of nil) and slices.Concat at slices of bytes: the library's own text is walked.
-/
import Derived.Test.YtaidegnjegmfdabDoorSum
import Derived.Test.YtaidegnjegmfdabDoorCut
import Derived.Lib.AppendZerosOnto
import Derived.Lib.SliceRun
import Derived.Lib.Walk
namespace Go.Proofs.YtaidegnjegmfdabDoor
open Go Go.RowKit
set_option linter.unusedVariables false

set_option maxRecDepth 100000 in
theorem grow_nil (n : Nat) (w : World) (hn : n ≤ 140737488355328) :
    Calls Tryd.prog 30 #[.slice none 0 0, .int .i64 n] w fun e w' => ∃ A c, e = .returned (.slice A 0 c) ∧ w'.ownsRow w.heap.size 5 1 (.slice A 0 c) 0 [] ∧ Below w.heap.size w w' := by
  by_cases h0 : n = 0
  · subst h0
    go_enter Tryd.func30, Tryd.ntmps30
    go_wp2
    go_ret
    exact ⟨none, 0, rfl, World.ownsRow_nil _ _ _ _, Below.refl _ _⟩
  · obtain ⟨i0, hi, hz0, hz1, hz2⟩ := info_parts Tryd.info5
    have hold : (Builtin.firstCells i0.size 0 (.slice none 0 0)).run Tryd.prog w.drew = .ok ([] : List Value).toArray w.drew := run_firstCells_none w.drew i0.size 0 0 0
    have hrz : ∀ ty, (Builtin.append_ #[23, 3] ty #[.slice none 0 0, .int .i64 (n : Int)]).run Tryd.prog w = _ := fun ty =>
      Lib.run_append_grow_zeros w 23 3 ty 5 i0 (.int .u8 0) .i64 .i64 Tryd.underlying23 Tryd.underlying3 hi hz0 none 0 0 [] hold n (by omega) (by rw [hz1]; decide) (by omega) (by omega) (by rw [hz2]; omega) (growslice_fits (by omega) (by rw [hz2]; omega))
    have hG63 := grownCap_le_maxLen w (0 + n) 0 5 (by unfold maxLen; omega)
    have hGn := grownCap_ge w (0 + n) 0 5
    have hmade := World.ownsRow_made (base := w.heap.size) (e := 5) (size := 1) w.drew (([] : List Value).toArray ++ Builtin.zeroCells (Value.int .u8 0).cells n ++ Builtin.zeroCells (Value.int .u8 0).cells (grownCap w (0 + n) 0 5 - (0 + n))) (grownCap w (0 + n) 0 5) (Nat.le_refl _) hG63 (by
      simp only [Array.size_append, List.size_toArray, List.length_nil, size_zeroCells]
      show 0 + n * 1 + _ * 1 = _
      omega)
    have hbl : Below w.heap.size w (w.drew.alloc (.cells (([] : List Value).toArray ++ Builtin.zeroCells (Value.int .u8 0).cells n ++ Builtin.zeroCells (Value.int .u8 0).cells (grownCap w (0 + n) 0 5 - (0 + n))) 5)) := ((Below.refl _ _).drew).alloc (by simp) _
    have hs1 : ∀ wx, (Instr.slice 23 (.slice none 0 0) none (some (.int .i64 0)) none).run Tryd.prog wx = .ok (.slice none 0 0) wx := by
      intro wx
      rw [run_slice_h wx 23 none 0 0 (by rw [elem_bytes]; exact Tryd.underlying23) .i64 0 (by omega) (by omega), elem_bytes, size_byte]
      simp [sliced, Result.andThen]
    have hs2 : ∀ (a : Addr) (k c : Nat) wx, (Instr.slice 23 (.slice (some a) k c) none (some (.int .i64 0)) none).run Tryd.prog wx = .ok (.slice (some a) 0 c) wx := by
      intro a k c wx
      rw [run_slice_h wx 23 (some a) k c (by rw [elem_bytes]; exact Tryd.underlying23) .i64 0 (by omega) (by omega), elem_bytes, size_byte]
      simp [sliced, Result.andThen, Addr.add]
    generalize grownCap w (0 + n) 0 5 = G at *
    generalize (([] : List Value).toArray ++ Builtin.zeroCells (Value.int .u8 0).cells n ++ Builtin.zeroCells (Value.int .u8 0).cells (G - (0 + n))) = cs at *
    have HM := Lib_hid hmade
    have HB := Lib_hid hbl
    clear hold hmade hbl hGn hG63
    go_enter Tryd.func30, Tryd.ntmps30
    go_wp2_with (at_builtin; refine Lib.wpList_append_run _ rfl _ _ _ _ rfl _ _ rfl rfl _ _ (hrz _) ?_)
    go_ret
    exact ⟨_, _, rfl, HM.out, HB.out⟩

theorem flat_le {ls : List (List Nat)} (k : Nat) : (ls.take k).flatten.length ≤ ls.flatten.length := by
  have h : ls.flatten = (ls.take k).flatten ++ (ls.drop k).flatten := by rw [← List.flatten_append, List.take_append_drop]
  rw [h, List.length_append]
  omega

set_option maxRecDepth 100000 in
theorem concat_any (B : Nat) (A : Option Addr) (n c : Nat) (vs : List Value) (ls : List (List Nat)) (w : World) (hrd : Rd w B 1 A n vs) (hR : Rws w B vs ls) (hB : B ≤ w.heap.size) (hn : n ≤ 9223372036854775807) (hm : ls.flatten.length ≤ 140737488355328) :
    Calls Tryd.prog 26 #[.slice A n c] w (Made 5 ls.flatten w) := by
  have hl : ls.length = n := by have := hrd.len; have := hR.len; omega
  have HL := Lib_hid hl
  clear hl
  obtain ⟨i0, hi, hz0, hz1, hz2⟩ := info_parts Tryd.info5
  have step : ∀ k, k < n → (ls.take (k + 1)).flatten = (ls.take k).flatten ++ ls.getD k [] := fun k hk => flatten_next (by rw [HL.out]; exact hk)
  have HS := Lib_hid step
  clear step
  go_enter Tryd.func26, Tryd.ntmps26
  go_wp2
  go_loop [3, 11] (fun s i => ∃ k : Nat, i = .int .i64 k ∧ k ≤ n ∧ s = .int .i64 (ls.take k).flatten.length) (fun _ i => n - (intOf i).toNat)
  case atStart => exact ⟨0, rfl, Nat.zero_le _, rfl⟩
  case round =>
    obtain ⟨k, rfl, hk, rfl⟩ := hrel
    by_cases hlt : k < n
    · obtain ⟨ad, A', n', c', rfl, hcell, hrow, hb, hnc, hc⟩ := hR.at hrd hlt
      have hcount := hrow.count
      have hle := flat_le (ls := ls) (k + 1)
      have e := HS.out k hlt
      rw [e, List.length_append, hcount] at hle
      have E2 : Hid ((ls.take (k + 1)).flatten.length = (ls.take k).flatten.length + n') := by unfold Hid; rw [e, List.length_append, hcount]
      clear e hrow hcount hb
      generalize (ls.take k).flatten.length = m at *
      go_wp2
      go_round
      case rel => exact ⟨k + 1, by go_num, by omega, by rw [E2.out]; go_num⟩
      case measure => simp [intOf]; omega
    · obtain rfl : k = n := by omega
      have e : ls.take k = ls := List.take_of_length_le (by rw [HL.out]; exact Nat.le_refl _)
      rw [e]
      clear e
      have HM := Lib_hid hm
      generalize ls.flatten.length = m at hm ⊢
      go_wp2_with fail
      refine (grow_nil m _ hm).mono ?_
      rintro e w1 ⟨A1, c1, rfl, ho1, hb1⟩
      go_wp2_with fail
      go_loopw [6, 27] (fun v i wr => ∃ (j n' c' : Nat) (A' : Option Addr), i = .int .i64 j ∧ j ≤ k ∧ v = .slice A' n' c' ∧ wr.ownsRow w.heap.size 5 1 (.slice A' n' c') n' (bs (ls.take j).flatten) ∧ Below w.heap.size w wr) (fun _ i _ => k - (intOf i).toNat)
      case atStart => exact ⟨0, 0, c1, A1, rfl, Nat.zero_le _, rfl, by simpa [bs] using ho1, hb1⟩
      case round =>
        obtain ⟨j, n', c', A', rfl, hj, rfl, ho, hbw⟩ := hrel
        by_cases hlt2 : j < k
        · obtain ⟨ad, A2, n2, c2, rfl, hcell, hrow, hb, hnc, hc⟩ := (hR.below (hbw.mono hB)).at (hrd.below (hbw.mono hB)) hlt2
          have hcount := hrow.count
          have hcn : (ls.take j).flatten.length = n' := by have := ho.1; rw [bs_length] at this; omega
          have hle := Nat.le_trans (flat_le (ls := ls) (j + 1)) HM.out
          have e := HS.out j hlt2
          rw [e, List.length_append, hcount, hcn] at hle
          have hm1 : n' + n2 ≤ maxLen := by unfold maxLen; omega
          have hm2 : (n' + n2) * 1 ≤ 140737488355328 := by omega
          have E2 := Lib_hid e
          clear e hcount hcn hb
          go_wp2_with (at_builtin; (refine wpList_app rfl _ _ 23 rfl w.heap.size 5 i0 (.int .u8 0) 1 1 Tryd.underlying23 hi hz0 hz1 hz2 rfl (by decide) _ n' _ rfl ho B A2 n2 c2 _ rfl hrow (bs_one _) hm1 hm2 hbw.size ?_); intro v' w2 hown' hst; obtain ⟨A3, c3, rfl, _⟩ := own_form hown')
          have hb2 : Below w.heap.size w w2 := hbw.trans (hst.below hbw.size (own_ge ho))
          rw [← bs_append, ← E2.out] at hown'
          clear hst ho hrow E2
          go_wp2
          go_roundw
          case rel => exact ⟨j + 1, _, c3, A3, by go_num, by omega, rfl, hown', hb2⟩
          case measure => simp [intOf]; omega
        · obtain rfl : j = k := by omega
          have e : ls.take j = ls := List.take_of_length_le (by rw [HL.out]; exact Nat.le_refl _)
          rw [e] at ho
          clear e
          go_wp2
          go_ret
          rw [made_iff]
          exact ⟨A', n', c', rfl, ho, hbw⟩

end Go.Proofs.YtaidegnjegmfdabDoor
