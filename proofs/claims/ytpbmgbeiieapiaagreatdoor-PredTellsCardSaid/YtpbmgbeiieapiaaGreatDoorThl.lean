/-
  Layer 4: holds and Holds, the program's; the document's Holds.
-/
import Derived.Test.YtpbmgbeiieapiaaGreatDoorTho
namespace Go.Proofs.YtpbmgbeiieapiaaGreatDoor
open Go Go.RowKit
set_option linter.unusedVariables false

set_option maxRecDepth 100000 in
set_option maxHeartbeats 1600000 in
theorem pholds_rec (x y : Nat) (hx : x < 18446744073709551616) (hy : y < 18446744073709551616) : ∀ (v : V) (w : World) (lo hi : Nat), Lies w lo hi v → hi ≤ w.heap.size → v.abs.allB = true →
    Calls Tryz.prog 46 #[v.val, .int .u64 (x : Int), .int .u64 (y : Int)] w fun e w' => e = .returned (.bool (v.abs.askB x y)) ∧ Below w.heap.size w w' := by
  have HXY := Lib_hid (And.intro hx hy)
  clear hx hy
  refine V.ind fun k a b A c ps ih w lo hi hL hhi hal => ?_
  obtain ⟨hfit, hk⟩ := allB_kind hal
  have hC : HoldsC x y lo hi ps := fun p hp W h2 h3 => by
    obtain ⟨i, hi1, hpe⟩ := List.mem_iff_getElem.1 hp
    exact ih p hp W lo hi h2 h3 (allB_part hal (i := i) (by rw [List.getElem?_eq_getElem hi1, hpe]))
  have HAS := Lib_hid (fun W (hW : Below w.heap.size w W) => asks_any x y HXY.out.1 HXY.out.2 k a b c lo hi A ps W (hL.under (hW.mono hhi)) (Nat.le_trans hhi hW.size) hfit hk hC)
  have hcf := call_ask hk
  have hbx := heap_alloc_new w (.cells #[.int .i64 k, .int .u64 (a : Int), .int .u64 (b : Int), .slice A ps.length c] 25)
  have hb0 := below_new w (.cells #[.int .i64 k, .int .u64 (a : Int), .int .u64 (b : Int), .slice A ps.length c] 25)
  have KD := kindof_any k (w.alloc (.cells #[.int .i64 k, .int .u64 (a : Int), .int .u64 (b : Int), .slice A ps.length c] 25))
  rw [kindAt_eq hk, show isKind k = true by unfold isKind; exact decide_eq_true hk] at KD
  rw [V.ask_node]
  obtain ⟨r, hr⟩ : ∃ r, r = askN k a b (T.manyL x y (V.absL ps)) ps.length x y := ⟨_, rfl⟩
  rw [← hr] at HAS ⊢
  simp only [V.val, V.kind, V.a, V.b, V.sl, V.addr, V.parts, V.cap]
  generalize wordA k = wd at *
  generalize partN k = pn at *
  generalize numF k = f1 at *
  generalize fitF k = f2 at *
  generalize askF k = f3 at *
  clear ih hL hal hfit hk hC hr
  go_enter Tryz.func46, Tryz.ntmps46
  go_wp2_with fail
  refine KD.mono ?_
  rintro e w1 ⟨rfl, hb1⟩
  have hbw := hb0.trans (hb1.mono hb0.size)
  have hx1 := (hb1.block w.heap.size (by simp)).trans hbx
  have hsz1 : w.heap.size < w1.heap.size := by have := hb1.size; simp at this; omega
  have hb2 := hbw.alloc hbw.size (.cells #[.string ⟨wd⟩, .int .i64 (pn : Nat), .func (.func f1) #[] #[], .func (.func f2) #[] #[], .func (.func f3) #[] #[]] 87)
  have hx2 := (heap_alloc_old w1 (.cells #[.string ⟨wd⟩, .int .i64 (pn : Nat), .func (.func f1) #[] #[], .func (.func f2) #[] #[], .func (.func f3) #[] #[]] 87) hsz1).trans hx1
  have hk2 := heap_alloc_new w1 (.cells #[.string ⟨wd⟩, .int .i64 (pn : Nat), .func (.func f1) #[] #[], .func (.func f2) #[] #[], .func (.func f3) #[] #[]] 87)
  clear KD hb1 hb0 hbx hx1 hbw
  go_upto_region 2 with (fail)
  generalize w1.alloc (.cells #[.string ⟨wd⟩, .int .i64 (pn : Nat), .func (.func f1) #[] #[], .func (.func f2) #[] #[], .func (.func f3) #[] #[]] 87) = w2 at *
  have c0 := cell_of_row w2 _ 0 _ _ _ hx2
  have c1 := cell_of_row w2 _ 1 _ _ _ hx2
  have c2 := cell_of_row w2 _ 2 _ _ _ hx2
  have c3 := cell_of_row w2 _ 3 _ _ _ hx2
  have d4 := cell_of_row w2 _ 4 _ _ _ hk2
  have AS := HAS.out w2 hb2
  clear hx2 hk2
  go_wp2_with fail
  refine AS.mono ?_
  rintro e w3 ⟨rfl, hb3⟩
  have hbw3 := hb2.trans (hb3.mono hb2.size)
  clear AS hb3 c0 c1 c2 c3 d4
  go_wp2
  go_ret
  exact ⟨rfl, hbw3⟩

set_option maxRecDepth 100000 in
set_option maxHeartbeats 800000 in
theorem pholds_any (x y : Nat) (hx : x < 18446744073709551616) (hy : y < 18446744073709551616) (v : V) (w : World) (lo hi : Nat) (hL : Lies w lo hi v) (hhi : hi ≤ w.heap.size) (hct : v.abs.count ≤ 1000) :
    Calls Tryz.prog 26 #[v.val, .int .u64 (x : Int), .int .u64 (y : Int)] w fun e w' => e = .returned (.bool (v.abs.rightB && v.abs.askB x y)) ∧ Below w.heap.size w w' := by
  have RA : Hid (∀ W, Below w.heap.size w W → Calls Tryz.prog 20 #[v.val] W fun e w' => e = .returned (.bool v.abs.rightB) ∧ Below W.heap.size W w') := fun W hW => pright_any v W lo hi (hL.under (hW.mono hhi)) (Nat.le_trans hhi hW.size)
  have HO : Hid (v.abs.rightB = true → ∀ W, Below w.heap.size w W → Calls Tryz.prog 46 #[v.val, .int .u64 (x : Int), .int .u64 (y : Int)] W fun e w' => e = .returned (.bool (v.abs.askB x y)) ∧ Below W.heap.size W w') := fun hr W hW => by
    have hal : v.abs.allB = true := by
      unfold T.rightB at hr
      rw [Bool.and_eq_true, Bool.and_eq_true] at hr
      exact hr.1.1
    exact pholds_rec x y hx hy v W lo hi (hL.under (hW.mono hhi)) (Nat.le_trans hhi hW.size) hal
  obtain ⟨rt, hrt⟩ : ∃ rt, rt = v.abs.rightB := ⟨_, rfl⟩
  obtain ⟨ak, hak⟩ : ∃ ak, ak = v.abs.askB x y := ⟨_, rfl⟩
  rw [← hrt] at RA HO ⊢
  rw [← hak] at HO ⊢
  clear hrt hak hL hx hy
  cases v with
  | node k a b A c ps =>
  simp only [V.val, V.kind, V.a, V.b, V.sl, V.addr, V.parts, V.cap] at RA HO ⊢
  have hb0 := below_new w (.cells #[.int .i64 k, .int .u64 (a : Int), .int .u64 (b : Int), .slice A ps.length c] 25)
  have hbx := heap_alloc_new w (.cells #[.int .i64 k, .int .u64 (a : Int), .int .u64 (b : Int), .slice A ps.length c] 25)
  have R1 := RA.out _ hb0
  clear RA
  go_enter Tryz.func26, Tryz.ntmps26
  go_wp2_with fail
  refine R1.mono ?_
  rintro e w1 ⟨rfl, hb1⟩
  have hx1 := (hb1.block w.heap.size (by simp)).trans hbx
  have hbw1 := hb0.trans (hb1.mono hb0.size)
  clear R1 hb1 hb0 hbx
  cases rt with
  | false =>
    go_wp2
    go_ret
    exact ⟨rfl, hbw1⟩
  | true =>
    have R2 := HO.out rfl w1 hbw1
    have c0 := cell_of_row w1 _ 0 _ _ _ hx1
    have c1 := cell_of_row w1 _ 1 _ _ _ hx1
    have c2 := cell_of_row w1 _ 2 _ _ _ hx1
    have c3 := cell_of_row w1 _ 3 _ _ _ hx1
    clear hx1
    go_wp2_with fail
    refine R2.mono ?_
    rintro e w2 ⟨rfl, hb2⟩
    have hbw2 := hbw1.trans (hb2.mono hbw1.size)
    clear R2 hb2 c0 c1 c2 c3
    go_wp2
    go_ret
    exact ⟨ret_b (by simp), hbw2⟩

set_option maxRecDepth 100000 in
set_option maxHeartbeats 800000 in
theorem rholds_any (x y : Nat) (hx : x < 18446744073709551616) (hy : y < 18446744073709551616) (v : V) (w : World) (lo hi : Nat) (hL : Lies w lo hi v) (hhi : hi ≤ w.heap.size) (hct : v.abs.count ≤ 1000) :
    Calls Tryz.prog 27 #[v.val, .int .u64 (x : Int), .int .u64 (y : Int)] w fun e w' => e = .returned (.bool (v.abs.rightB && v.abs.askB x y)) ∧ Below w.heap.size w w' := by
  have RA : Hid (∀ W, Below w.heap.size w W → Calls Tryz.prog 21 #[v.val] W fun e w' => e = .returned (.bool v.abs.rightB) ∧ Below W.heap.size W w') := fun W hW => rright_any v W lo hi (hL.under (hW.mono hhi)) (Nat.le_trans hhi hW.size) hct
  have HO : Hid (v.abs.rightB = true → ∀ W, Below w.heap.size w W → Calls Tryz.prog 47 #[v.val, .int .u64 (x : Int), .int .u64 (y : Int)] W fun e w' => e = .returned (.bool (v.abs.askB x y)) ∧ Below W.heap.size W w') := fun hr W hW => by
    have hal : v.abs.allB = true := by
      unfold T.rightB at hr
      rw [Bool.and_eq_true, Bool.and_eq_true] at hr
      exact hr.1.1
    exact rasks_any x y hx hy v W lo hi (hL.under (hW.mono hhi)) (Nat.le_trans hhi hW.size) hal hct
  obtain ⟨rt, hrt⟩ : ∃ rt, rt = v.abs.rightB := ⟨_, rfl⟩
  obtain ⟨ak, hak⟩ : ∃ ak, ak = v.abs.askB x y := ⟨_, rfl⟩
  rw [← hrt] at RA HO ⊢
  rw [← hak] at HO ⊢
  clear hrt hak hL hx hy
  cases v with
  | node k a b A c ps =>
  simp only [V.val, V.kind, V.a, V.b, V.sl, V.addr, V.parts, V.cap] at RA HO ⊢
  have hb0 := below_new w (.cells #[.int .i64 k, .int .u64 (a : Int), .int .u64 (b : Int), .slice A ps.length c] 30)
  have hbx := heap_alloc_new w (.cells #[.int .i64 k, .int .u64 (a : Int), .int .u64 (b : Int), .slice A ps.length c] 30)
  have R1 := RA.out _ hb0
  clear RA
  go_enter Tryz.func27, Tryz.ntmps27
  go_wp2_with fail
  refine R1.mono ?_
  rintro e w1 ⟨rfl, hb1⟩
  have hx1 := (hb1.block w.heap.size (by simp)).trans hbx
  have hbw1 := hb0.trans (hb1.mono hb0.size)
  clear R1 hb1 hb0 hbx
  cases rt with
  | false =>
    go_wp2
    go_ret
    exact ⟨rfl, hbw1⟩
  | true =>
    have R2 := HO.out rfl w1 hbw1
    have c0 := cell_of_row w1 _ 0 _ _ _ hx1
    have c1 := cell_of_row w1 _ 1 _ _ _ hx1
    have c2 := cell_of_row w1 _ 2 _ _ _ hx1
    have c3 := cell_of_row w1 _ 3 _ _ _ hx1
    clear hx1
    go_wp2_with fail
    refine R2.mono ?_
    rintro e w2 ⟨rfl, hb2⟩
    have hbw2 := hbw1.trans (hb2.mono hbw1.size)
    clear R2 hb2 c0 c1 c2 c3
    go_wp2
    go_ret
    exact ⟨ret_b (by simp), hbw2⟩

end Go.Proofs.YtpbmgbeiieapiaaGreatDoor
