/-
  Layer 4: the program's reader.kind.
-/
import Derived.Test.YtbcadnkdehknoaaGreatDoorTpu
import Derived.Test.YtbcadnkdehknoaaGreatDoorTnm
namespace Go.Proofs.YtbcadnkdehknoaaGreatDoor
open Go Go.RowKit
set_option linter.unusedVariables false

def wordL (k : Nat) : List UInt8 := (wordA k).toList
/-- The kind whose word a text begins with, and the rest; 0, and the text, if there is none. -/
def kindS (s : List UInt8) : Nat × List UInt8 :=
  match [1, 2, 3, 4, 5, 6, 7].find? (fun k => Lib.hasPrefix s (wordL k)) with
  | some k => (k, Lib.trimPrefix s (wordL k))
  | none => (0, s)
theorem kindS_at {s : List UInt8} {j : Nat} (h1 : 1 ≤ j) (h7 : j ≤ 7) (hn : ∀ i, 1 ≤ i → i < j → Lib.hasPrefix s (wordL i) = false) (hy : Lib.hasPrefix s (wordL j) = true) : kindS s = (j, Lib.trimPrefix s (wordL j)) := by
  have : j = 1 ∨ j = 2 ∨ j = 3 ∨ j = 4 ∨ j = 5 ∨ j = 6 ∨ j = 7 := by omega
  unfold kindS
  rcases this with rfl | rfl | rfl | rfl | rfl | rfl | rfl <;> simp_all
theorem kindS_none {s : List UInt8} (hn : ∀ i, 1 ≤ i → i < 8 → Lib.hasPrefix s (wordL i) = false) : kindS s = (0, s) := by
  unfold kindS
  rw [List.find?_eq_none.2 (by
    intro k hk
    simp only [List.mem_cons, List.not_mem_nil, or_false] at hk
    rw [hn k (by omega) (by omega)]; simp)]
theorem kindS_le (s : List UInt8) : (kindS s).1 ≤ 7 ∧ (kindS s).2.length ≤ s.length ∧ ((kindS s).1 ≠ 0 → (kindS s).2.length < s.length) := by
  unfold kindS
  cases h : [1, 2, 3, 4, 5, 6, 7].find? (fun k => Lib.hasPrefix s (wordL k)) with
  | none => simp
  | some k =>
    have hk := List.mem_of_find?_eq_some h
    have hp : Lib.hasPrefix s (wordL k) = true := by simpa using List.find?_some h
    simp only [List.mem_cons, List.not_mem_nil, or_false] at hk
    have hl : Lib.trimPrefix s (wordL k) = s.drop (wordL k).length := by unfold Lib.trimPrefix; rw [if_pos hp]
    have hw : 1 ≤ (wordL k).length ∧ (wordL k).length ≤ s.length := by
      refine ⟨by rcases hk with rfl | rfl | rfl | rfl | rfl | rfl | rfl <;> decide, ?_⟩
      unfold Lib.hasPrefix at hp
      exact (List.isPrefixOf_iff_prefix.1 hp).length_le
    simp only
    rw [hl, List.length_drop]
    omega

theorem trim_no {s x : List UInt8} (h : Lib.hasPrefix s x = false) : Lib.trimPrefix s x = s := by unfold Lib.trimPrefix; rw [h]; rfl

def KindEnd4 (m : Int) (s : List UInt8) (bad : Bool) (g : Nat) (w : World) (e : Ending) (w' : World) : Prop :=
  e = .returned (.int .i64 ((kindS s).1 : Nat)) ∧ w.grownBy w' (some g) ∧ w'.heap[g]? = some (RdrC m (kindS s).2 bad)

set_option maxRecDepth 100000 in
set_option maxHeartbeats 1600000 in
theorem pkind_any (m : Int) (s : List UInt8) (bad : Bool) (g : Nat) (w : World) (hg : w.heap[g]? = some (RdrC m s bad)) :
    Calls Tryz.prog 234 #[.pointer (some ⟨g, 0, none⟩)] w (KindEnd4 m s bad g w) := by
  have hgl := (Array.getElem?_eq_some_iff.1 hg).1
  have KD := kinds_any w
  have HX : Hid (∀ (j : Nat), 1 ≤ j → j ≤ 7 → ∀ wx, (Instr.index 223 (.agg kindsA) (.int .i64 (j : Int))).run Tryz.prog wx = .ok (.agg #[.string ⟨(wordL j).toArray⟩, .int .i64 (partN j : Nat), .func (.func (numF j)) #[] #[], .func (.func (fitF j)) #[] #[], .func (.func (askF j)) #[] #[]]) wx) := by
    intro j h1 h7
    have : j = 1 ∨ j = 2 ∨ j = 3 ∨ j = 4 ∨ j = 5 ∨ j = 6 ∨ j = 7 := by omega
    rcases this with rfl | rfl | rfl | rfl | rfl | rfl | rfl <;> exact fun wx => by kernel_rfl
  have HX0 : Hid (∀ wx, (Instr.index 223 (.agg kindsA) (.int .i64 0)).run Tryz.prog wx = .ok (.agg #[.string ⟨#[]⟩, .int .i64 0, .nilFunc, .nilFunc, .nilFunc]) wx) := fun wx => by kernel_rfl
  have HW : Hid (∀ j, 1 ≤ j → j ≤ 7 → (wordL j == []) = false) := by
    intro j h1 h7
    have : j = 1 ∨ j = 2 ∨ j = 3 ∨ j = 4 ∨ j = 5 ∨ j = 6 ∨ j = 7 := by omega
    rcases this with rfl | rfl | rfl | rfl | rfl | rfl | rfl <;> decide
  generalize kindsA = ka at *
  go_enter Tryz.func234, Tryz.ntmps234
  go_wp2_with fail
  refine KD.mono ?_
  rintro e w1 ⟨rfl, hb1⟩
  have hg1 := (hb1.block g hgl).trans hg
  have hgr1 := grow_below hb1 (some g)
  clear KD hb1
  go_wp2
  go_loopw [6] (fun z W => ∃ j : Nat, z = .int .i64 j ∧ j ≤ 8 ∧ Hid (∀ i, 1 ≤ i → i < j → Lib.hasPrefix s (wordL i) = false) ∧ W.heap[g]? = some (RdrC m s bad) ∧ w.grownBy W (some g)) (fun z _ => 8 - (intOf z).toNat)
  case atStart => exact ⟨0, rfl, by omega, Lib_hid (fun i h1 h2 => by omega), hg1, hgr1⟩
  case round =>
    clear hg1 hgr1
    obtain ⟨j, rfl, hj, hno, hgW, hgr⟩ := hrel
    rename World => W
    by_cases h8 : j < 8
    · by_cases h0 : j = 0
      · subst h0
        have hx := HX0.out
        have hnew := below_new W (.cells #[.string ⟨#[]⟩, .int .i64 0, .nilFunc, .nilFunc, .nilFunc] 195)
        have hg2 := (hnew.block g (Array.getElem?_eq_some_iff.1 hgW).1).trans hgW
        have hgr2 := hgr.trans (grow_below hnew (some g))
        clear hgW hgr hnew
        go_wp2
        go_roundw
        case rel => exact ⟨1, by go_num, by omega, Lib_hid (fun i h1 h2 => by omega), hg2, hgr2⟩
        case measure => simp [intOf]
      · have hx := HX.out j (by omega) (by omega)
        have hw := HW.out j (by omega) (by omega)
        have hwb : wordL j ≠ [] := by intro e; rw [e] at hw; simp at hw
        have hnew := below_new W (.cells #[.string ⟨(wordL j).toArray⟩, .int .i64 (partN j : Nat), .func (.func (numF j)) #[] #[], .func (.func (fitF j)) #[] #[], .func (.func (askF j)) #[] #[]] 195)
        have hg2 := (hnew.block g (Array.getElem?_eq_some_iff.1 hgW).1).trans hgW
        have hgr2 := hgr.trans (grow_below hnew (some g))
        have MK := mark_any m s (wordL j) bad g _ hg2
        have HHIT : Hid (Lib.hasPrefix s (wordL j) = true → kindS s = (j, Lib.trimPrefix s (wordL j))) := fun h => kindS_at (by omega) (by omega) hno.out h
        have HMISS : Hid (Lib.hasPrefix s (wordL j) = false → ∀ i, 1 ≤ i → i < j + 1 → Lib.hasPrefix s (wordL i) = false) := fun h i h1 h2 => by
          rcases Nat.lt_or_ge i j with h3 | h3
          · exact hno.out i h1 h3
          · obtain rfl : i = j := by omega
            exact h
        have HTN : Hid (Lib.hasPrefix s (wordL j) = false → Lib.trimPrefix s (wordL j) = s) := trim_no
        clear hgW hgr hnew hg2
        generalize wordL j = wd at *
        generalize partN j = pn at *
        generalize numF j = f1 at *
        generalize fitF j = f2 at *
        generalize askF j = f3 at *
        go_wp2_with fail
        refine MK.mono ?_
        rintro e w3 ⟨rfl, hgr3, hg3⟩
        have hgr4 := hgr2.trans hgr3
        clear MK hgr2 hgr3
        cases hp : Lib.hasPrefix s wd with
        | true =>
          have HF : Hid (KindEnd4 m s bad g w (.returned (.int .i64 (j : Int))) w3) := by
            have := HHIT.out hp
            refine ⟨by rw [this], hgr4, by rw [this]; exact hg3⟩
          clear hg3 HHIT HMISS HTN
          go_wp2_with fail
          go_ret
          exact HF.out
        | false =>
          have HM := Lib_hid (HMISS.out hp)
          rw [HTN.out hp] at hg3
          clear HHIT HMISS HTN
          go_wp2_with fail
          go_roundw
          case rel => exact ⟨j + 1, by go_num, by omega, HM, hg3, hgr4⟩
          case measure => simp [intOf]; omega
    · obtain rfl : j = 8 := by omega
      have HF : Hid (KindEnd4 m s bad g w (.returned (.int .i64 0)) W) := by
        have := kindS_none hno.out
        refine ⟨by rw [this]; rfl, hgr, by rw [this]; exact hgW⟩
      go_wp2
      go_ret
      exact HF.out

end Go.Proofs.YtbcadnkdehknoaaGreatDoor
