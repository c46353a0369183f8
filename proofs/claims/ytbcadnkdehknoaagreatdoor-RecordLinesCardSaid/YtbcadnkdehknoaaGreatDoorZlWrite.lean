/-
  Layer 5: names, kindOf.
  A row of numbers as cells. No program is named here.
  Contracts of the program's Writer and of slices.Clone, for every input.
-/
import Derived.Test.YtbcadnkdehknoaaGreatDoorZlVpm
import Derived.Test.YtbcadnkdehknoaaGreatDoorMem
import Derived.Test.YtbcadnkdehknoaaGreatDoorKit
import Derived.Handy

namespace Go.Proofs.YtbcadnkdehknoaaGreatDoor
open Go Go.RowKit
set_option linter.unusedVariables false

def namesA : Array Value := #[.string ⟨#[]⟩, .string ⟨(nameL 1).toArray⟩, .string ⟨(nameL 2).toArray⟩, .string ⟨(nameL 3).toArray⟩, .string ⟨(nameL 4).toArray⟩, .string ⟨(nameL 5).toArray⟩, .string ⟨(nameL 6).toArray⟩, .string ⟨(nameL 7).toArray⟩]
def namesZ : Array Value := #[.string ⟨#[]⟩, .string ⟨#[]⟩, .string ⟨#[]⟩, .string ⟨#[]⟩, .string ⟨#[]⟩, .string ⟨#[]⟩, .string ⟨#[]⟩, .string ⟨#[]⟩]
theorem names_any (w : World) : Calls Tryz.prog 43 #[] w fun e w' => e = .returned (.agg namesA) ∧ Below w.heap.size w w' := by
  have hsz : (Tryz.prog.info? 105).map (·.size) = some 8 := by kernel_rfl
  go_enter Tryz.func43, Tryz.ntmps43
  go_wp2
  exact bodyPost_ret (results_cell_row (p := 0) (ty := 105) rfl _ _ w.heap.size 105 namesA (0, 0) _ rfl (heap_alloc_new w _) Tryz.underlying105 rfl hsz) rfl ⟨rfl, below_new w _⟩
set_option maxRecDepth 100000 in
theorem index_name {i : Nat} (hi : i < 8) : ∀ W : World, (Instr.index 105 (.agg namesA) (.int .i64 (i : Int))).run Tryz.prog W = .ok (.string ⟨(nameL (i : Int)).toArray⟩) W := by
  have : i = 0 ∨ i = 1 ∨ i = 2 ∨ i = 3 ∨ i = 4 ∨ i = 5 ∨ i = 6 ∨ i = 7 := by omega
  rcases this with rfl | rfl | rfl | rfl | rfl | rfl | rfl | rfl <;> exact fun W => by kernel_rfl
theorem kindL_zero {s : List UInt8} (h : ∀ j : Nat, j < 8 → nameL (j : Int) ≠ s) : kindL s = 0 := by
  unfold kindL
  rw [if_neg fun e => h 1 (by omega) e.symm, if_neg fun e => h 2 (by omega) e.symm, if_neg fun e => h 3 (by omega) e.symm, if_neg fun e => h 4 (by omega) e.symm, if_neg fun e => h 5 (by omega) e.symm, if_neg fun e => h 6 (by omega) e.symm, if_neg fun e => h 7 (by omega) e.symm]
theorem kindL_at {s : List UInt8} {i : Nat} (hi : i < 8) (h : nameL (i : Int) = s) : kindL s = i := by
  subst h
  have : i = 0 ∨ i = 1 ∨ i = 2 ∨ i = 3 ∨ i = 4 ∨ i = 5 ∨ i = 6 ∨ i = 7 := by omega
  rcases this with rfl | rfl | rfl | rfl | rfl | rfl | rfl | rfl <;> decide

set_option maxRecDepth 100000 in
set_option maxHeartbeats 1600000 in
theorem kindof5_any (s : List UInt8) (w : World) : Calls Tryz.prog 66 #[.string ⟨s.toArray⟩] w fun e w' => e = .returned (.int .i64 (kindL s : Nat)) ∧ Below w.heap.size w w' := by
  have HIX := Lib_hid (fun (i : Nat) (hi : i < 8) => index_name hi)
  have HZ : Hid ((∀ j : Nat, j < 8 → nameL (j : Int) ≠ s) → kindL s = 0) := kindL_zero
  have HA : Hid (∀ i : Nat, i < 8 → nameL (i : Int) = s → kindL s = i) := fun i => kindL_at
  generalize kindL s = ks at *
  go_enter Tryz.func66, Tryz.ntmps66
  go_wp2_with fail
  refine (names_any _).mono ?_
  rintro e w1 ⟨rfl, hb1⟩
  generalize namesA = na at *
  go_wp2
  go_loop [6] (fun z => ∃ i : Nat, z = .int .i64 i ∧ i ≤ 8 ∧ Hid (∀ j : Nat, j < i → nameL (j : Int) ≠ s)) (fun z => 8 - (intOf z).toNat)
  case atStart => exact ⟨0, rfl, by omega, fun j hj => absurd hj (by omega)⟩
  case round =>
    obtain ⟨i, rfl, hi8, hall⟩ := hrel
    by_cases hlt : i < 8
    · have hix := HIX.out i hlt
      have HN := Lib_hid (HA.out i hlt)
      have HS : Hid (nameL (i : Int) ≠ s → ∀ j : Nat, j < i + 1 → nameL (j : Int) ≠ s) := fun h j hj => by
        rcases Nat.lt_or_ge j i with h2 | h2
        · exact hall.out j h2
        · obtain rfl : j = i := by omega
          exact h
      generalize nameL (i : Int) = nm at *
      by_cases he : nm = s
      · have hb : (nm == s) = true := by simp [he]
        have HF := Lib_hid (HN.out he)
        subst he
        clear HN HS hall HA HZ hb
        go_wp2
        go_ret
        exact ⟨by rw [HF.out]; rfl, hb1⟩
      · have hb : (nm == s) = false := by simp [he]
        have HS2 := Lib_hid (HS.out he)
        clear HN HS hall he
        go_wp2
        go_round
        case rel => exact ⟨i + 1, by go_num, by omega, HS2⟩
        case measure => simp [intOf]; omega
    · obtain rfl : i = 8 := by omega
      have HF := Lib_hid (HZ.out hall.out)
      go_wp2
      go_ret
      exact ⟨by rw [HF.out]; rfl, hb1⟩

end Go.Proofs.YtbcadnkdehknoaaGreatDoor

namespace Go.Proofs.YtbcadnkdehknoaaGreatDoor
open Go Go.RowKit
set_option linter.unusedVariables false

/-- The numbers l as cells. -/
def us (l : List Nat) : List Value := l.map fun (n : Nat) => Value.int .u64 (n : Int)
theorem us_length (l : List Nat) : (us l).length = l.length := by simp [us]

end Go.Proofs.YtbcadnkdehknoaaGreatDoor

namespace Go.Proofs.YtbcadnkdehknoaaGreatDoor
open Go Go.RowKit
set_option linter.unusedVariables false

theorem bs_nil : bs [] = [] := rfl

/-- buildSlice of nothing: an empty row. -/
theorem own_empty (w : World) (t : TypeId) : (w.alloc (.cells #[] t)).ownsRow w.heap.size t 1 (.slice (some ⟨w.heap.size, 0, none⟩) 0 0) 0 [] :=
  World.ownsRow_lit w #[] 0 (Nat.le_refl _) (by decide) rfl

set_option maxRecDepth 100000 in
/-- A fresh slice (nil if what it is of is nil) that reads as the bytes l; nothing that was there has turned. -/
theorem clone_any (B : Nat) (A : Option Addr) (n c : Nat) (l : List Nat) (w : World) (h : Rd w B 1 A n (bs l)) (hn : n ≤ 140737488355300) (hB : B ≤ w.heap.size) :
    Calls Tryz.prog 75 #[.slice A n c] w (Made 5 l w) := by
  have hc := h.count
  subst hc
  obtain ⟨i0, hi, hz0, hz1, hz2⟩ := info_parts Tryz.info5
  have hm1 : 0 + l.length ≤ maxLen := by unfold maxLen; omega
  have hm2 : (0 + l.length) * 1 ≤ 140737488355328 := by omega
  have hs1 : w.heap.size ≤ (w.alloc (.cells #[] 5)).heap.size := by simp
  have hO := own_empty w 5
  have hr := h.alloc hB (.cells #[] 5)
  rcases A with _ | ad
  · have hl : l.length = 0 := by
      rcases Nat.eq_zero_or_pos l.length with h0 | h0
      · exact h0
      · obtain ⟨ad, hA, _⟩ := h.lies h0; cases hA
    have hl0 : l = [] := List.eq_nil_of_length_eq_zero hl
    subst hl0
    have heq : ∀ wx : World, (binOp .eql 46 (.slice none 0 c) (.slice none 0 0)).run Tryz.prog wx = .ok (.bool true) wx := fun wx => Lib.run_eql_slice_nil wx _ _ _ _ _ _ _ Tryz.underlying46
    go_enter Tryz.func75, Tryz.ntmps75
    go_wp2
    go_ret
    exact ⟨none, 0, rfl, own_none _ _ _, Below.refl _ _⟩
  · have heq : ∀ wx : World, (binOp .eql 46 (.slice (some ad) l.length c) (.slice none 0 0)).run Tryz.prog wx = .ok (.bool false) wx := fun wx => Lib.run_eql_slice_nil wx _ _ _ _ _ _ _ Tryz.underlying46
    go_enter Tryz.func75, Tryz.ntmps75
    go_wp2_with (at_builtin; (refine wpList_app rfl _ _ 46 rfl w.heap.size 5 i0 (.int .u8 0) 1 1 Tryz.underlying46 hi hz0 hz1 hz2 rfl (by decide) (.slice (some ⟨w.heap.size, 0, none⟩) 0 0) 0 [] rfl hO B (some ad) l.length c (bs l) rfl hr (bs_one _) hm1 hm2 hs1 ?_); intro v' w1 hown' hst; simp only [Nat.zero_add, List.nil_append] at hown'; obtain ⟨A2, c2, rfl, _⟩ := own_form hown')
    go_ret
    refine ⟨A2, c2, rfl, hown', ((Below.refl _ _).alloc (Nat.le_refl _) _).trans (hst.below hs1 (fun k hk => ?_))⟩
    have : w.heap.size = k := by injection hk
    omega

/-- A writer at block g: its slice v owns the bytes ys, in a row above it. -/
structure Wr (T E : TypeId) (w : World) (g : Nat) (A : Option Addr) (n c : Nat) (ys : List Nat) : Prop where
  blk : w.heap[g]? = some (.cells #[.slice A n c] T (0, 0))
  own : w.ownsRow (g + 1) E 1 (.slice A n c) n (bs ys)

/-- A step that may write block g and the row of v, and ends with v' in that row or in a new block. -/
structure WStp (w w' : World) (g : Nat) (v v' : Value) : Prop where
  os : w'.os = w.os
  tape : w'.tape = w.tape
  output : w'.output = w.output
  size : w.heap.size ≤ w'.heap.size
  block : ∀ k, k < w.heap.size → k ≠ g → some k ≠ v.ownBlock → w'.heap[k]? = w.heap[k]?
  row : v'.ownBlock = v.ownBlock ∨ ∃ k, v'.ownBlock = some k ∧ w.heap.size ≤ k

theorem WStp.refl (w : World) (g : Nat) (v : Value) : WStp w w g v v := ⟨rfl, rfl, rfl, Nat.le_refl _, fun _ _ _ _ => rfl, .inl rfl⟩
theorem WStp.of {w w' : World} {v v' : Value} (g : Nat) (h : Stp w w' v v') : WStp w w' g v v' := ⟨h.grow.os, h.grow.tape, h.grow.output, h.grow.size, fun k hk _ hv => h.grow.block k hk hv, h.row⟩
theorem WStp.store (w : World) (g o : Nat) (u v : Value) : WStp w (w.setCell ⟨g, o, none⟩ u) g v v := ⟨rfl, rfl, rfl, by simp, fun k _ hg _ => Below.heap_setCell w _ _ _ hg, .inl rfl⟩
theorem WStp.trans {a b c : World} {g : Nat} {u v x : Value} (h : WStp a b g u v) (k : WStp b c g v x) : WStp a c g u x := by
  refine ⟨k.os.trans h.os, k.tape.trans h.tape, k.output.trans h.output, Nat.le_trans h.size k.size, fun i hi hg hne => ?_, ?_⟩
  · refine (k.block i (Nat.lt_of_lt_of_le hi h.size) hg ?_).trans (h.block i hi hg hne)
    rcases h.row with e | ⟨j, e, hj⟩
    · rw [e]; exact hne
    · rw [e]; intro e2; have : i = j := by injection e2
      omega
  · have := h.size
    rcases k.row with e | ⟨j, e, hj⟩
    · rw [e]; rcases h.row with e1 | ⟨j, e1, hj⟩
      · exact .inl e1
      · exact .inr ⟨j, e1, hj⟩
    · exact .inr ⟨j, e, by omega⟩
theorem WStp.below {w w' : World} {g : Nat} {v v' : Value} (h : WStp w w' g v v') {B : Nat} (hB : B ≤ w.heap.size) (hg : B ≤ g) (hv : ∀ k, v.ownBlock = some k → B ≤ k) : Below B w w' :=
  ⟨h.os, h.tape, h.output, h.size, fun k hk => h.block k (by omega) (by omega) (fun e => by have := hv k e.symm; omega)⟩

/-- A slice that lies away from block g and from the row of v. -/
def Away (g : Nat) (v : Value) (A : Option Addr) (n : Nat) : Prop := 0 < n → ∀ ad, A = some ad → ad.block ≠ g ∧ some ad.block ≠ v.ownBlock
theorem Rd.wstp {w w' : World} {B size n g : Nat} {A : Option Addr} {xs : List Value} {v v' : Value} (h : Rd w B size A n xs) (hB : B ≤ w.heap.size) (ha : Away g v A n) (hs : WStp w w' g v v') : Rd w' B size A n xs :=
  ⟨h.len, fun hn => by
    obtain ⟨ad, e, hb, hc⟩ := h.lies hn
    have := ha hn ad e
    exact ⟨ad, e, hb, fun j u hu => (World.cell?_of_block (by rw [add_block]; exact hs.block _ (by omega) this.1 this.2)).trans (hc j u hu)⟩⟩
theorem Away.wstp {w w' : World} {B size n g : Nat} {A : Option Addr} {xs : List Value} {v v' : Value} (ha : Away g v A n) (h : Rd w B size A n xs) (hB : B ≤ w.heap.size) (hs : WStp w w' g v v') : Away g v' A n := fun hn ad e => by
  have h1 := ha hn ad e
  refine ⟨h1.1, ?_⟩
  obtain ⟨ad', e', hb, _⟩ := h.lies hn
  obtain rfl : ad = ad' := by rw [e] at e'; injection e'
  rcases hs.row with e2 | ⟨k, e2, hk⟩
  · rw [e2]; exact h1.2
  · rw [e2]; intro e3; have : ad.block = k := by injection e3
    omega

theorem Wr.lt {T E : TypeId} {w : World} {g n c : Nat} {A : Option Addr} {ys : List Nat} (h : Wr T E w g A n c ys) : g < w.heap.size := lt_of_block h.blk
/-- Behind a step to the row alone the writer's block is as it was; behind the store it holds the new slice. -/
theorem Wr.stored {T E : TypeId} {w w1 : World} {g n c n' c' : Nat} {A A' : Option Addr} {ys zs : List Nat} (h : Wr T E w g A n c ys) (hs : Stp w w1 (.slice A n c) (.slice A' n' c')) (ho : w1.ownsRow (g + 1) E 1 (.slice A' n' c') n' (bs zs)) :
    Wr T E (w1.setCell ⟨g, 0, none⟩ (.slice A' n' c')) g A' n' c' zs ∧ WStp w (w1.setCell ⟨g, 0, none⟩ (.slice A' n' c')) g (.slice A n c) (.slice A' n' c') := by
  have hb : w1.heap[g]? = some (.cells #[.slice A n c] T (0, 0)) := (hs.grow.block g h.lt (fun e => by have := own_ge h.own g e.symm; omega)).trans h.blk
  exact ⟨⟨one_setCell hb, ownsRow_setCell_below ho (by simp) _⟩, (WStp.of g hs).trans (WStp.store _ _ _ _ _)⟩
theorem Wr.kept {T E : TypeId} {w w1 : World} {g n c : Nat} {A : Option Addr} {ys : List Nat} (h : Wr T E w g A n c ys) (hb : Below w.heap.size w w1) : Wr T E w1 g A n c ys :=
  ⟨(hb.block g h.lt).trans h.blk, own_below h.own hb (own_lt h.own)⟩

/-- What a writer's call leaves. -/
def WPost (T E : TypeId) (g : Nat) (v : Value) (ys : List Nat) (w : World) (e : Ending) (w' : World) : Prop :=
  ∃ A n c, e = .returned (.int .i64 0) ∧ Wr T E w' g A n c ys ∧ WStp w w' g v (.slice A n c)

set_option maxRecDepth 100000 in
theorem wraw_any (g : Nat) (A : Option Addr) (n c : Nat) (ys : List Nat) (w : World) (h : Wr 93 5 w g A n c ys) (hn : n ≤ 100000)
    (B : Nat) (bA : Option Addr) (bn bc : Nat) (l : List Nat) (hl : Rd w B 1 bA bn (bs l)) (hbn : bn ≤ 100000) :
    Calls Tryz.prog 177 #[.pointer (some ⟨g, 0, none⟩), .slice bA bn bc] w (WPost 93 5 g (.slice A n c) (ys ++ l) w) := by
  have hc := cell_of_one h.blk
  have hg := h.lt
  obtain ⟨i0, hi, hz0, hz1, hz2⟩ := info_parts Tryz.info5
  have hm1 : n + bn ≤ maxLen := by unfold maxLen; omega
  have hm2 : (n + bn) * 1 ≤ 140737488355328 := by omega
  have ho := h.own
  go_enter Tryz.func177, Tryz.ntmps177
  go_wp2_with (at_builtin; (refine wpList_app rfl _ _ 46 rfl (g + 1) 5 i0 (.int .u8 0) 1 1 Tryz.underlying46 hi hz0 hz1 hz2 rfl (by decide) (.slice A n c) n (bs ys) rfl ho B bA bn bc (bs l) rfl hl (bs_one _) hm1 hm2 hg ?_); intro v' w1 hown' hst; rw [← bs_append] at hown'; obtain ⟨A2, c2, rfl, _⟩ := own_form hown'; have hw := h.stored hst hown'; have hb1 := (hst.grow.block g hg (fun e => by have := own_ge ho g e.symm; omega)).trans h.blk; have hf1 := free_of_one hb1; have hc1 := cell_of_one hb1)
  go_ret
  exact ⟨A2, _, c2, rfl, hw.1, hw.2⟩

set_option maxRecDepth 100000 in
theorem wtext_any (g : Nat) (A : Option Addr) (n c : Nat) (ys : List Nat) (w : World) (h : Wr 93 5 w g A n c ys) (hn : n ≤ 100000)
    (B : Nat) (bA : Option Addr) (bn bc : Nat) (l : List Nat) (hl : Rd w B 1 bA bn (bs l)) (hbn : bn ≤ 100000) (hB : B ≤ w.heap.size) (ha : Away g (.slice A n c) bA bn) :
    Calls Tryz.prog 135 #[.pointer (some ⟨g, 0, none⟩), .slice bA bn bc] w (WPost 93 5 g (.slice A n c) (ys ++ enc bn ++ l) w) := by
  have hc := cell_of_one h.blk
  have hg := h.lt
  obtain ⟨i0, hi, hz0, hz1, hz2⟩ := info_parts Tryz.info5
  have ho := h.own
  have ht := enc_ten (v := bn) (by omega)
  have hyl : (bs ys).length = n := by have := ho.1; omega
  have S := stand_any (g + 1) A n c (bs ys) bn w (by omega) ho hg (by omega)
  go_enter Tryz.func135, Tryz.ntmps135
  go_wp2_with fail
  refine S.mono ?_
  rintro e w1 ⟨A1, n1, c1, rfl, ho1, hs1⟩
  rw [← bs_append] at ho1
  have hn1 : n1 = n + (enc bn).length := by have := ho1.1; rw [bs_length, List.length_append] at this; rw [bs_length] at hyl; omega
  have hm1 : n1 + bn ≤ maxLen := by unfold maxLen; omega
  have hm2 : (n1 + bn) * 1 ≤ 140737488355328 := by omega
  have hl1 := hl.wstp hB ha (WStp.of g hs1)
  have hg1 : g + 1 ≤ w1.heap.size := by have := hs1.grow.size; omega
  clear hn1 S
  go_wp2_with (at_builtin; (refine wpList_app rfl _ _ 46 rfl (g + 1) 5 i0 (.int .u8 0) 1 1 Tryz.underlying46 hi hz0 hz1 hz2 rfl (by decide) (.slice A1 n1 c1) n1 (bs (ys ++ enc bn)) rfl ho1 B bA bn bc (bs l) rfl hl1 (bs_one _) hm1 hm2 hg1 ?_); intro v' w2 hown' hst; rw [← bs_append] at hown'; obtain ⟨A2, c2, rfl, _⟩ := own_form hown'; have hw := h.stored (hs1.trans hst) hown'; have hb1 := ((hs1.trans hst).grow.block g hg (fun e => by have := own_ge ho g e.symm; omega)).trans h.blk; have hf1 := free_of_one hb1; have hc1 := cell_of_one hb1)
  go_ret
  exact ⟨A2, _, c2, rfl, hw.1, hw.2⟩

theorem wbytes_any (g : Nat) (A : Option Addr) (n c : Nat) (ys : List Nat) (w : World) (h : Wr 93 5 w g A n c ys) (hn : n ≤ 100000) :
    Calls Tryz.prog 42 #[.pointer (some ⟨g, 0, none⟩)] w (Made 5 ys w) := by
  have hc := cell_of_one h.blk
  have C := clone_any w.heap.size A n c ys w (Rd.own h.own) (by omega) (Nat.le_refl _)
  go_enter Tryz.func42, Tryz.ntmps42
  go_wp2_with (go_at_call 75; refine C.mono ?_; rintro e w1 ⟨A1, c1, rfl, ho1, hb1⟩)
  go_ret
  exact ⟨A1, c1, rfl, ho1, hb1⟩


/-- All numbers' bytes, one behind the other. -/
def encs (l : List Nat) : List Nat := l.flatMap enc
theorem encs_snoc (l : List Nat) (x : Nat) : encs (l ++ [x]) = encs l ++ enc x := by simp [encs]
theorem encs_le (l : List Nat) (h : ∀ x ∈ l, (x : Int) ≤ 18446744073709551615) : (encs l).length ≤ 10 * l.length := by
  induction l with
  | nil => simp [encs]
  | cons x l ih =>
    have h1 := ih (fun y hy => h y (List.mem_cons_of_mem _ hy))
    have h2 := enc_ten (v := x) (by have := h x (List.mem_cons_self ..); omega)
    simp only [encs, List.flatMap_cons, List.length_append, List.length_cons] at *
    omega

theorem Rd.num {w : World} {B n : Nat} {A : Option Addr} {l : List Nat} (h : Rd w B 1 A n (us l)) {k : Nat} (hk : k < n) : ∃ ad x, A = some ad ∧ l[k]? = some x ∧ w.cell? (ad.add k) = some (.int .u64 ((x : Nat) : Int)) := by
  obtain ⟨ad, e, hb, hc⟩ := h.lies (by omega)
  have hl : k < l.length := by have := h.len; rw [us_length] at this; omega
  exact ⟨ad, l[k], e, List.getElem?_eq_getElem hl, hc k _ (by simp [us, List.getElem?_eq_getElem hl])⟩

set_option maxRecDepth 100000 in
set_option maxHeartbeats 800000 in
theorem wnumber_any (g : Nat) (A : Option Addr) (n c : Nat) (ys : List Nat) (w : World) (h : Wr 93 5 w g A n c ys) (hn : n ≤ 100000)
    (B : Nat) (lA : Option Addr) (ln lc : Nat) (l : List Nat) (hl : Rd w B 1 lA ln (us l)) (h64 : ∀ x ∈ l, (x : Int) ≤ 18446744073709551615) (hln : ln ≤ 100000) (hB : B ≤ w.heap.size) (ha : Away g (.slice A n c) lA ln) :
    Calls Tryz.prog 105 #[.pointer (some ⟨g, 0, none⟩), .slice lA ln lc] w (WPost 93 5 g (.slice A n c) (ys ++ encs l) w) := by
  have hll : l.length = ln := by have := hl.len; rw [us_length] at this; omega
  have hyl : ys.length = n := by have := h.own.1; rw [bs_length] at this; omega
  have HLL := Lib_hid hll
  have HYL := Lib_hid hyl
  have H64 := Lib_hid h64
  clear hll hyl h64
  go_enter Tryz.func105, Tryz.ntmps105
  go_wp2
  go_loopw [11] (fun i wr => ∃ (k : Nat) (A' : Option Addr) (n' c' : Nat), i = .int .i64 k ∧ k ≤ ln ∧ Wr 93 5 wr g A' n' c' (ys ++ encs (l.take k)) ∧ WStp w wr g (.slice A n c) (.slice A' n' c')) (fun i _ => ln - (intOf i).toNat)
  case atStart => exact ⟨0, A, n, c, rfl, Nat.zero_le _, by simpa [encs] using h, WStp.refl _ _ _⟩
  case round =>
    obtain ⟨k, A', n', c', rfl, hk, hw, hs⟩ := hrel
    by_cases hlt : k < ln
    · obtain ⟨ad, x, rfl, hx, hcell⟩ := (hl.wstp hB ha hs).num hlt
      have hc := cell_of_one hw.blk
      have hg := hw.lt
      have hx64 := H64.out x (List.mem_of_getElem? hx)
      have hn' : n' ≤ 1100000 := by
        have h1 := hw.own.1
        rw [bs_length, List.length_append] at h1
        have h2 := encs_le (l.take k) (fun y hy => H64.out y (List.mem_of_mem_take hy))
        rw [List.length_take] at h2
        have := HYL.out
        omega
      have S := stand_any (g + 1) A' n' c' (bs (ys ++ encs (l.take k))) x wr hx64 hw.own hg (by omega)
      have htk : Hid (l.take (k + 1) = l.take k ++ [x]) := by unfold Hid; rw [List.take_add_one, hx]; rfl
      clear hx
      go_wp2_with (go_at_call 167; refine S.mono ?_; rintro e w1 ⟨A1, n1, c1, rfl, ho1, hs1⟩; rw [← bs_append] at ho1; have hst := hw.stored hs1 ho1; have hb1 := (hs1.grow.block g hg (fun e => by have := own_ge hw.own g e.symm; omega)).trans hw.blk; have hf1 := free_of_one hb1; have hc1 := cell_of_one hb1)
      go_roundw
      case rel => exact ⟨k + 1, A1, n1, c1, by go_num, by omega, by rw [htk.out, encs_snoc, ← List.append_assoc]; exact hst.1, hs.trans hst.2⟩
      case measure => simp [intOf]; omega
    · obtain rfl : k = ln := by omega
      go_wp2
      go_ret
      rw [List.take_of_length_le (by have := HLL.out; omega)] at hw
      exact ⟨A', n', c', rfl, hw, hs⟩

end Go.Proofs.YtbcadnkdehknoaaGreatDoor
