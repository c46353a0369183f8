/-
  Layer 4: Put, on both sides.
-/
import Derived.Test.YtbcadnkdehknoaaGreatDoorTrs
namespace Go.Proofs.YtbcadnkdehknoaaGreatDoor
open Go Go.RowKit
set_option linter.unusedVariables false

/-- What a tree stands as: nothing, if it is not right. -/
def T.put (t : T) : List Nat := if t.rightB then t.stand else []
theorem right_all {t : T} (h : t.rightB = true) : t.allB = true ∧ t.count ≤ 32 := by
  unfold T.rightB at h
  simp only [Bool.and_eq_true, decide_eq_true_eq] at h
  exact ⟨h.1.1, h.2⟩

theorem pput_any (v : V) (w : World) (lo hi : Nat) (hL : Lies w lo hi v) (hhi : hi ≤ w.heap.size) :
    Calls Tryz.prog 136 #[v.val] w (Made 5 v.abs.put w) := by
  have hbx := heap_alloc_new w (.cells #[.int .i64 v.kind, .int .u64 (v.a : Int), .int .u64 (v.b : Int), v.sl] 27)
  have hb0 := below_new w (.cells #[.int .i64 v.kind, .int .u64 (v.a : Int), .int .u64 (v.b : Int), v.sl] 27)
  have hhi1 : hi ≤ (w.alloc (.cells #[.int .i64 v.kind, .int .u64 (v.a : Int), .int .u64 (v.b : Int), v.sl] 27)).heap.size := by have := hb0.size; omega
  have RR := pright_any v _ lo hi (hL.under (hb0.mono hhi)) hhi1
  have hPut : Hid (v.abs.put = if v.abs.rightB then v.abs.stand else []) := rfl
  have SS : Hid (∀ W, Below w.heap.size w W → v.abs.rightB = true → Calls Tryz.prog 172 #[.slice none 0 0, v.val] W (Grew 5 W.heap.size (.slice none 0 0) (bs v.abs.stand) W)) := fun W hW hr => by
    have := tstand_any v W lo hi W.heap.size none 0 0 [] (hL.under (hW.mono hhi)) (by have := hW.size; omega) (Nat.le_refl _) (right_all hr).1 (own_none _ _ _) (by intro g hg; cases hg) (by have := (right_all hr).2; simp; omega)
    simpa using this
  have e0 := cell_of_row (w.alloc (.cells #[.int .i64 v.kind, .int .u64 (v.a : Int), .int .u64 (v.b : Int), v.sl] 27)) _ 0 _ _ _ hbx
  simp only [V.val, V.sl] at RR SS hbx hb0 ⊢
  generalize v.abs.put = res at *
  generalize v.abs.stand = st at *
  generalize v.abs.rightB = r at *
  generalize v.kind = x0 at *
  generalize (v.a : Int) = x1 at *
  generalize (v.b : Int) = x2 at *
  generalize v.addr = pA at *
  generalize v.parts.length = pn at *
  generalize v.cap = pc at *
  clear e0 hL hhi1
  go_enter Tryz.func136, Tryz.ntmps136
  go_wp2_with fail
  refine RR.mono ?_
  rintro e w1 ⟨rfl, hb1⟩
  have hbw := hb0.trans (hb1.mono hb0.size)
  have hx1 := (hb1.block w.heap.size (by simp)).trans hbx
  have c0 := cell_of_row w1 _ 0 _ _ _ hx1
  have c1 := cell_of_row w1 _ 1 _ _ _ hx1
  have c2 := cell_of_row w1 _ 2 _ _ _ hx1
  have c3 := cell_of_row w1 _ 3 _ _ _ hx1
  simp at c0 c1 c2 c3
  clear hbx hb0 hb1 hx1 RR
  cases r with
  | true =>
    have CS := SS.out w1 hbw rfl
    have HP : Hid (res = st) := hPut.out.trans (if_pos rfl)
    clear hPut
    go_wp2_with fail
    refine CS.mono ?_
    rintro e w2 ⟨A2, n2, c2', rfl, ho2, hs2⟩
    have HF : Hid (Made 5 res w (.returned (.slice A2 n2 c2')) w2) := by
      rw [HP.out]
      exact made_iff.2 ⟨A2, n2, c2', rfl, own_base ho2 fun k hk => by have := own_ge ho2 k hk; have := hbw.size; omega, hbw.trans (hs2.below hbw.size fun k hk => by cases hk)⟩
    clear CS ho2 hs2
    go_wp2
    go_ret
    exact HF.out
  | false =>
    have HF : Hid (Made 5 res w (.returned (.slice none 0 0)) w1) := by
      rw [hPut.out, if_neg (by simp)]
      exact made_iff.2 ⟨none, 0, 0, rfl, own_none _ _ _, hbw⟩
    clear hPut
    go_wp2
    go_ret
    exact HF.out

theorem rput4_any (v : V) (w : World) (lo hi : Nat) (hL : Lies w lo hi v) (hhi : hi ≤ w.heap.size) (hct : v.abs.count ≤ 1000) :
    Calls Tryz.prog 40 #[v.val] w (Made 5 v.abs.put w) := by
  have hbx := heap_alloc_new w (.cells #[.int .i64 v.kind, .int .u64 (v.a : Int), .int .u64 (v.b : Int), v.sl] 36)
  have hb0 := below_new w (.cells #[.int .i64 v.kind, .int .u64 (v.a : Int), .int .u64 (v.b : Int), v.sl] 36)
  have hhi1 : hi ≤ (w.alloc (.cells #[.int .i64 v.kind, .int .u64 (v.a : Int), .int .u64 (v.b : Int), v.sl] 36)).heap.size := by have := hb0.size; omega
  have RR := rright_any v _ lo hi (hL.under (hb0.mono hhi)) hhi1 hct
  have hPut : Hid (v.abs.put = if v.abs.rightB then v.abs.stand else []) := rfl
  have SS : Hid (∀ W, Below w.heap.size w W → v.abs.rightB = true → Calls Tryz.prog 74 #[v.val] W (Made 5 v.abs.stand W)) := fun W hW hr =>
    trstands_any v W lo hi (hL.under (hW.mono hhi)) (by have := hW.size; omega) (right_all hr).1 hct
  simp only [V.val, V.sl] at RR SS hbx hb0 ⊢
  generalize v.abs.put = res at *
  generalize v.abs.stand = st at *
  generalize v.abs.rightB = r at *
  generalize v.kind = x0 at *
  generalize (v.a : Int) = x1 at *
  generalize (v.b : Int) = x2 at *
  generalize v.addr = pA at *
  generalize v.parts.length = pn at *
  generalize v.cap = pc at *
  clear hL hhi1 hct
  go_enter Tryz.func40, Tryz.ntmps40
  go_wp2_with fail
  refine RR.mono ?_
  rintro e w1 ⟨rfl, hb1⟩
  have hbw := hb0.trans (hb1.mono hb0.size)
  have hx1 := (hb1.block w.heap.size (by simp)).trans hbx
  have c0 := cell_of_row w1 _ 0 _ _ _ hx1
  have c1 := cell_of_row w1 _ 1 _ _ _ hx1
  have c2 := cell_of_row w1 _ 2 _ _ _ hx1
  have c3 := cell_of_row w1 _ 3 _ _ _ hx1
  simp at c0 c1 c2 c3
  clear hbx hb0 hb1 hx1 RR
  cases r with
  | true =>
    have CS := SS.out w1 hbw rfl
    have HP : Hid (res = st) := hPut.out.trans (if_pos rfl)
    clear hPut
    go_wp2_with fail
    refine CS.mono ?_
    rintro e w2 hm
    obtain ⟨A2, n2, c2', rfl, ho2, hs2⟩ := made_iff.1 hm
    have HF : Hid (Made 5 res w (.returned (.slice A2 n2 c2')) w2) := by
      rw [HP.out]
      exact made_iff.2 ⟨A2, n2, c2', rfl, own_base ho2 fun k hk => by have := own_ge ho2 k hk; have := hbw.size; omega, hbw.trans (hs2.mono hbw.size)⟩
    clear CS ho2 hs2 hm
    go_wp2
    go_ret
    exact HF.out
  | false =>
    have HF : Hid (Made 5 res w (.returned (.slice none 0 0)) w1) := by
      rw [hPut.out, if_neg (by simp)]
      exact made_iff.2 ⟨none, 0, 0, rfl, own_none _ _ _, hbw⟩
    clear hPut
    go_wp2
    go_ret
    exact HF.out

end Go.Proofs.YtbcadnkdehknoaaGreatDoor
