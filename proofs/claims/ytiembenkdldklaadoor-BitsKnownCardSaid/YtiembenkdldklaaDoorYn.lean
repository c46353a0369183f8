/-
  Layer 8: the program's New, Size, takes, word, Has.
-/
import Derived.Test.YtiembenkdldklaaDoorYm
import Derived.StillTailTactics
namespace Go.Proofs.YtiembenkdldklaaDoor
open Go Go.RowKit
set_option linter.unusedVariables false

/-- A pointer to block p. -/
abbrev pv (p : Nat) : Value := .pointer (some ⟨p, 0, none⟩)
/-- Ends with a new set. -/
def NEnd (l : List Bool) (w : World) (e : Ending) (w' : World) : Prop :=
  ∃ p, e = .returned (pv p) ∧ BZ w' w.heap.size w'.heap.size p l ∧ Below w.heap.size w w'

set_option maxRecDepth 100000 in
theorem pnew_any (n : Int) (w : World) : Calls Tryd.prog 10 #[.int .i64 n] w (NEnd (List.replicate (clampN n) false) w) := by
  obtain ⟨i0, hi, hz0, hz1, hz2⟩ := info_parts Tryd.infoU
  obtain ⟨k, hk⟩ : ∃ k, k = clampN n := ⟨_, rfl⟩
  have hk6 : k ≤ 65536 := by rw [hk]; exact clampN_le n
  rw [← hk]
  have hcs : (n < 0 ∧ k = 0) ∨ (n = 0 ∧ k = 0) ∨ (0 < n ∧ n ≤ 65536 ∧ n = k) ∨ (65536 < n ∧ k = 65536) := by rw [hk]; unfold clampN; omega
  clear hk
  have key : ∀ w1 : World, w1.ownsRow w.heap.size 56 1 (.slice (some ⟨w.heap.size, 0, none⟩) (nw k) (nw k)) (nw k) (madeCells (Value.int .u64 0).cells (nw k * 1)).toList → w.grownBy w1 none →
      NEnd (List.replicate k false) w (.returned (pv w1.heap.size)) (w1.alloc (.cells #[.int .i64 (k : Int), .slice (some ⟨w.heap.size, 0, none⟩) (nw k) (nw k)] 55)) := by
    intro w1 ho hg
    have hlt : w.heap.size < w1.heap.size := own_lt ho _ rfl
    have hb1 : Below w.heap.size w w1 := (Below.refl _ w).grown hg (Nat.le_refl _) (fun k hk => by cases hk)
    have hs := hb1.size
    rw [Nat.mul_one, show (Value.int .u64 0).cells = #[.int .u64 0] from rfl, toList_madeCells_one] at ho
    refine ⟨w1.heap.size, rfl, ⟨some ⟨w.heap.size, 0, none⟩, nw k, ⟨?_, ?_, ?_, by simpa using hk6⟩, ⟨hs, by simp⟩, fun j hj => ?_⟩, hb1.alloc hs _⟩
    · rw [List.length_replicate]; exact heap_alloc_new w1 _
    · rw [List.length_replicate, wds_rep]
      have : us (List.replicate (nw k) 0) = List.replicate (nw k) (.int .u64 0) := by simp [us]
      rw [this]
      exact own_base (own_keep ho fun j hj => heap_alloc_old _ _ (own_lt ho j hj)) (fun _ _ => Nat.zero_le _)
    · intro e
      have : w.heap.size = w1.heap.size := Option.some.inj e
      omega
    · have : w.heap.size = j := Option.some.inj hj
      simp; omega
  have HK := Lib_hid key
  clear key
  go_enter Tryd.func10, Tryd.ntmps10
  rcases hcs with ⟨h1, h3⟩ | ⟨h1, h3⟩ | ⟨h1, h2, h3⟩ | ⟨h1, h3⟩
  all_goals
    have H3 := Lib_hid h3
    clear h3
    go_wp2_with (refine wpList_make_full _ rfl (.tmp 11) (.tmp 11) 53 rfl w.heap.size 56 i0 (.int .u64 0) 1 Tryd.underlying53 hi hz0 hz1 .i64 .i64 _ _ (nw k) rfl rfl (by have := H3.out; unfold nw; omega) (by have := H3.out; unfold nw; omega) (by rw [hz2]; unfold nw; omega) (by unfold maxLen nw; omega) (Nat.le_refl _) ?_; intro w1 hown1 hg1; have HD := Lib_hid (HK.out w1 hown1 hg1); clear hown1 hg1)
    go_ret
    first | exact HD.out | (have e := H3.out; subst e; exact HD.out) | (have e := H3.out; rw [e]; exact HD.out)

theorem psize_any (lo hi p : Nat) (l : List Bool) (w : World) (h : BZ w lo hi p l) : Calls Tryd.prog 11 #[pv p] w fun e w' => e = .returned (.int .i64 (l.length : Int)) ∧ w' = w := by
  obtain ⟨A, c, h, _⟩ := h
  have c0 := h.c0
  clear h
  go_enter Tryd.func11, Tryd.ntmps11
  go_wp2
  go_ret
  exact ⟨rfl, rfl⟩
theorem psize_nil (w : World) : Calls Tryd.prog 11 #[.pointer none] w fun e w' => e = .returned (.int .i64 0) ∧ w' = w := by
  go_enter Tryd.func11, Tryd.ntmps11
  go_wp2
  go_ret
  exact ⟨rfl, rfl⟩

/-- Of a size that is told. -/
theorem takes_of (s : Value) (n : Nat) (i : Int) (w : World) (h : Calls Tryd.prog 11 #[s] w fun e w' => e = .returned (.int .i64 (n : Int)) ∧ w' = w) :
    Calls Tryd.prog 32 #[s, .int .i64 i] w fun e w' => e = .returned (.bool (inB n i)) ∧ w' = w := by
  have HZ := Lib_hid h
  clear h
  by_cases h0 : 0 ≤ i
  · have d0 : decide (0 ≤ i) = true := decide_eq_true h0
    have e : inB n i = decide (i < (n : Int)) := by unfold inB; rw [d0]; rfl
    rw [e]
    clear e
    go_enter Tryd.func32, Tryd.ntmps32
    go_wp2_with fail
    refine HZ.out.mono ?_
    rintro e w1 ⟨rfl, rfl⟩
    go_wp2
    go_ret
    exact ⟨rfl, rfl⟩
  · have d0 : decide (0 ≤ i) = false := decide_eq_false h0
    have e : inB n i = false := by unfold inB; rw [d0]; rfl
    rw [e]
    clear e
    go_enter Tryd.func32, Tryd.ntmps32
    go_wp2
    go_ret
    exact ⟨rfl, rfl⟩
theorem ptakes_any (lo hi p : Nat) (l : List Bool) (i : Int) (w : World) (h : BZ w lo hi p l) : Calls Tryd.prog 32 #[pv p, .int .i64 i] w fun e w' => e = .returned (.bool (inB l.length i)) ∧ w' = w :=
  takes_of _ _ _ _ (psize_any lo hi p l w h)
theorem ptakes_nil (i : Int) (w : World) : Calls Tryd.prog 32 #[.pointer none, .int .i64 i] w fun e w' => e = .returned (.bool false) ∧ w' = w := by
  have := takes_of (.pointer none) 0 i w (psize_nil w)
  rw [inB_no (by omega)] at this
  exact this

/-- The word at p. -/
theorem pword_any (lo hi q : Nat) (l : List Bool) (p : Nat) (w : World) (h : BZ w lo hi q l) (hp : p ≤ 1000000) : Calls Tryd.prog 43 #[pv q, .int .i64 (p : Int)] w fun e w' => e = .returned (.int .u64 (wl l p : Int)) ∧ w' = w := by
  obtain ⟨A, c, h, _⟩ := h
  have c1 := h.c1
  by_cases hk : p < nw l.length
  · obtain ⟨g, rfl, hc, _⟩ := h.word hk
    clear h
    generalize (wl l p : Nat) = x at *
    generalize nw l.length = n at *
    go_enter Tryd.func43, Tryd.ntmps43
    go_wp2
    go_ret
    exact ⟨rfl, rfl⟩
  · rw [wl_ge (by omega)]
    clear h
    generalize nw l.length = n at *
    have d : decide ((n : Int) ≤ (p : Int)) = true := decide_eq_true (by omega)
    go_enter Tryd.func43, Tryd.ntmps43
    go_wp2
    go_ret
    exact ⟨rfl, rfl⟩
theorem pword_nil (p : Int) (w : World) : Calls Tryd.prog 43 #[.pointer none, .int .i64 p] w fun e w' => e = .returned (.int .u64 0) ∧ w' = w := by
  go_enter Tryd.func43, Tryd.ntmps43
  go_wp2
  go_ret
  exact ⟨rfl, rfl⟩

end Go.Proofs.YtiembenkdldklaaDoor
