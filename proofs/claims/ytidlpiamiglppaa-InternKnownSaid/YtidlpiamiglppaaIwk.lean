/-
  Layer 7: the chapter's examples (works).
-/
import Derived.Test.YtidlpiamiglppaaItd
import Derived.Test.YtidlpiamiglppaaIrh
namespace Go.Proofs.Ytidlpiamiglppaa
open Go Go.RowKit Go.Maps
set_option linter.unusedVariables false

def exL : List PP := [(9, 0), (4, 0), (7, 0)]
def exR : List PP := [(9, 0), (4, 0), (9, 0), (7, 0)]
theorem ex_add : addL [] exR = exL := by decide
theorem ex_last : lastP [] exR = 2 := by decide
theorem ex_rising {s : List Nat} (h : IsRising exL s) : s = [1, 2, 0] := rising_eq h ⟨rfl, fun i hi => by
  match i, hi with
  | 0, _ => rfl
  | 1, _ => rfl
  | 2, _ => rfl⟩
theorem exR_nm : ∀ q ∈ exR, NmU q := by
  intro q hq
  simp only [exR, List.mem_cons, List.not_mem_nil, or_false] at hq
  rcases hq with rfl | rfl | rfl | rfl <;> exact ⟨by decide, rfl⟩
theorem exL_zs : Zs exL := by
  intro q hq
  simp only [exL, List.mem_cons, List.not_mem_nil, or_false] at hq
  rcases hq with rfl | rfl | rfl <;> rfl

set_option maxRecDepth 100000 in
set_option maxHeartbeats 1600000 in
theorem works7_any (w : World) : Calls Try.prog 9 #[] w fun e w' => e = .returned (.bool true) ∧ Below w.heap.size w w' := by
  obtain ⟨W1, hW1⟩ : ∃ W1, W1 = (w.alloc (.cells #[.slice none 0 0, .map none] 31)).alloc (.cells #[.int .u64 9, .int .u64 4, .int .u64 9, .int .u64 7] 23) := ⟨_, rfl⟩
  have T0 : Tab kU (w.alloc (.cells #[.slice none 0 0, .map none] 31)) w.heap.size none 0 none [] := Tab.new kU rfl w
  have hs0 : (w.alloc (.cells #[.slice none 0 0, .map none] 31)).heap.size = w.heap.size + 1 := by simp
  have T1 : Tab kU W1 w.heap.size none 0 none [] := by rw [hW1]; exact T0.turns (turns_alloc (fun _ => False) _ _) (fun _ _ h => h)
  have hs1 : W1.heap.size = w.heap.size + 2 := by rw [hW1]; simp
  have hb1 : Below w.heap.size w W1 := by rw [hW1]; exact (below_new w _).alloc (by omega) _
  have hr1 : W1.ownsRow (w.heap.size + 1) 23 1 (.slice (some ⟨w.heap.size + 1, 0, none⟩) 4 4) 4 (uc exR) := by
    have h := World.ownsRow_lit (base := w.heap.size + 1) (e := 23) (size := 1) (w.alloc (.cells #[.slice none 0 0, .map none] 31)) #[.int .u64 9, .int .u64 4, .int .u64 9, .int .u64 7] 4 (by omega) (by decide) rfl
    rw [hs0] at h
    rw [hW1]
    exact h
  have F0 := tadd_any (c' := 4) T1 (Rs.of_own hr1 (fun k hk => by
    have : w.heap.size + 1 = k := by injection hk
    rintro (e | e | e)
    · omega
    · cases e
    · cases e)) exR_nm (by decide)
  have HH := Lib_hid (And.intro hW1 (And.intro hb1 hs1))
  have HF := Lib_hid F0
  clear T0 T1 hs0 hs1 hb1 hr1 F0 hW1
  go_enter Try.func9, Try.ntmps9
  go_wp2_with fail
  rw [← HH.out.1]
  refine HF.out.mono ?_
  rintro e w2 ⟨rfl, A2, c2, m2, ht, hw, hown⟩
  rw [ex_last]
  rw [ex_add] at ht
  have hb2 : Hid (Below w.heap.size w w2) := HH.out.2.1.trans (hw.below (by have := HH.out.2.2; omega) (fun k hk => by
    rcases hk with e | e | e
    · omega
    · cases e
    · cases e))
  have F1 : Calls Try.prog 20 #[.pointer (some ⟨w.heap.size, 0, none⟩), .int .u64 4] w2 fun e w' => e = .returned (.tuple #[.int .i64 1, .bool true]) ∧ w2 = w' := tfind_any ht (q := (4, 0)) ⟨by decide, rfl⟩
  have F2 : Calls Try.prog 20 #[.pointer (some ⟨w.heap.size, 0, none⟩), .int .u64 5] w2 fun e w' => e = .returned (.tuple #[.int .i64 0, .bool false]) ∧ w2 = w' := tfind_any ht (q := (5, 0)) ⟨by decide, rfl⟩
  have F3 : Calls Try.prog 22 #[.pointer (some ⟨w.heap.size, 0, none⟩), .int .i64 3] w2 fun e w' => e = .returned (.tuple #[.int .u64 0, .int .i64 70]) ∧ w2 = w' := tname_any ht 3
  have F4 : Calls Try.prog 14 #[.pointer (some ⟨w.heap.size, 0, none⟩)] w2 (MadeC 23 1 3 (uc exL) w2) := tnames_any ht (by decide)
  have F5 : Hid (∀ W, Below w2.heap.size w2 W → Calls Try.prog 15 #[.pointer (some ⟨w.heap.size, 0, none⟩)] W (IntsEnd (IsRising exL) 3 W)) := fun W hW => trising_any (ht.below hW ht.lt) exL_zs (by decide)
  clear HF ht hw hown
  go_wp2_with fail
  refine F1.mono ?_
  rintro e w3 ⟨rfl, rfl⟩
  go_wp2_with fail
  refine F2.mono ?_
  rintro e w3 ⟨rfl, rfl⟩
  go_wp2_with fail
  refine F3.mono ?_
  rintro e w3 ⟨rfl, rfl⟩
  go_wp2_with fail
  refine F4.mono ?_
  rintro e w3 ⟨A3, c3, rfl, ho3, hb3⟩
  obtain ⟨g3, cap3, hv3, _, _⟩ := ho3.form (by decide)
  have : A3 = some ⟨g3, 0, none⟩ := by injection hv3
  subst this
  have k0 : w3.cell? ⟨g3, 0, none⟩ = some (.int .u64 9) := ho3.cellAt 0 (by decide)
  have k2 : w3.cell? ⟨g3, 2, none⟩ = some (.int .u64 7) := ho3.cellAt 2 (by decide)
  have hcp := own_cap ho3
  have F6 := F5.out w3 hb3
  have hb3' : Hid (Below w.heap.size w w3) := hb2.out.trans (hb3.mono hb2.out.size)
  have HO := Lib_hid hb3
  clear F1 F2 F3 F4 F5 ho3 hv3 hb3
  go_wp2_with fail
  refine F6.mono ?_
  rintro e w4 ⟨A4, c4, s, hs, rfl, ho4, hb4⟩
  obtain rfl := ex_rising hs
  have hb4' : Hid (Below w.heap.size w w4) := hb3'.out.trans (hb4.mono hb3'.out.size)
  have hr4 := Rd.own (own_below ho4 (below_new w4 (.cells #[.int .i64 1, .int .i64 2, .int .i64 0] 3)) (own_lt ho4))
  have hr5 := Rd.own (World.ownsRow_lit (base := w4.heap.size) (e := 3) (size := 1) w4 #[.int .i64 1, .int .i64 2, .int .i64 0] 3 (Nat.le_refl _) (by decide) rfl)
  have F7 := sameI_any _ _ A4 (some ⟨w4.heap.size, 0, none⟩) 3 3 c4 3 [1, 2, 0] _ hr4 hr5 (by decide)
  clear F6 ho4 hb4 hr4 hr5 hs
  go_wp2_with fail
  refine F7.mono ?_
  rintro e w5 ⟨rfl, q, rfl⟩
  go_wp2
  go_ret
  exact ⟨rfl, below_drew_ (hb4'.out.alloc hb4'.out.size _)⟩

end Go.Proofs.Ytidlpiamiglppaa
