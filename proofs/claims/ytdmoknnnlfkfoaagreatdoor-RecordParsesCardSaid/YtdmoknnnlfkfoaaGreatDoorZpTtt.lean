/-
  Layer 4: what bytes are taken as, plainly; the program's taker.number, kind and many.
  Contract of the document's Get (alibiref01.Get), for every input: it answers as the program's.
  A slice of a slice of bytes, as the walk meets it: the new slice reads as the part.
  What Get answers to bytes that were put.
  Layer 4: the program's taker: how a node ends; the steps between, plainly.
  Layer 4: what is taken, plainly: places go on; the document's number; how the document's take ends.
-/
import Derived.Test.YtdmoknnnlfkfoaaGreatDoorZpGet
import Derived.Test.YtdmoknnnlfkfoaaGreatDoorZpTko

namespace Go.Proofs.YtdmoknnnlfkfoaaGreatDoor
open Go Go.RowKit
set_option linter.unusedVariables false
def numT (l : List Nat) (a : Nat) : Option (Nat × Nat) := if (getS l (a : Int)).2.2 = 0 then some ((getS l (a : Int)).1, (getS l (a : Int)).2.1) else none
def numsT (l : List Nat) : Nat → Nat → Option (List Nat × Nat)
  | 0, a => some ([], a)
  | j + 1, a => (numsT l j a).bind fun (vs, r) => (numT l r).map fun (v, r') => (vs ++ [v], r')
def cntT (l : List Nat) (k r : Nat) : Option (Nat × Nat) := if 6 ≤ k then numT l r else some (if k = 5 then 1 else 0, r)
def manyT (f : Nat → Option (T × Nat)) : Nat → Nat → Option (List T × Nat)
  | 0, a => some ([], a)
  | n + 1, a => (f a).bind fun (t, a') => (manyT f n a').map fun (ts, r) => (t :: ts, r)
def kindT (l : List Nat) (a : Nat) : Nat × Nat := if a < l.length then (l.getD a 0, a + 1) else (0, a)
def tkS (l : List Nat) : Nat → Nat → Option (T × Nat)
  | 0, _ => none
  | d + 1, a => if (kindT l a).1 = 0 ∨ 7 < (kindT l a).1 then none else
    (numsT l (numN (kindT l a).1) (kindT l a).2).bind fun (vs, r1) => (cntT l (kindT l a).1 r1).bind fun (n, r2) => (manyT (tkS l d) n r2).map fun (ts, r3) => (.node (kindT l a).1 (vs.getD 0 0) (vs.getD 1 0) ts, r3)
def TkrC (m : Int) (A : Option Addr) (n c : Nat) (a : Int) (bad : Bool) : Obj := .cells #[.int .i64 m, .slice A n c, .int .i64 a, .bool bad] 265 (0, 0)
theorem vget_quiet4 {B : Nat} {A : Option Addr} {n c : Nat} {l : List Nat} {a : Int} {w : World} {k : Nat} (x y z : Nat) (hx : getS l a = (x, y, z)) (h : Rd w B 1 A n (bs l)) (hb : ∀ x ∈ l, x < 256) (hn : n ≤ c) (hc : c ≤ 9223372036854775807) :
    Calls Tryz.prog 173 #[.slice A n c, .int .i64 a] (w.drewN k) fun e w'' => e = .returned (.tuple #[.int .u64 x, .int .i64 y, .int .i64 z]) ∧ ∃ q, w'' = w.drewN q := by
  have G := get_any B A n c l a (w.drewN k) (h.keep fun p _ => World.cell?_of_block rfl) hb hn hc
  rw [hx] at G
  refine G.mono ?_
  rintro e w' ⟨h1, rfl⟩
  exact ⟨h1, k, rfl⟩
def TNumEnd (m : Int) (A : Option Addr) (n c : Nat) (l : List Nat) (a : Nat) (bad : Bool) (g : Nat) (w : World) (e : Ending) (w' : World) : Prop :=
  w.grownBy w' (some g) ∧ ((∃ v r, numT l a = some (v, r) ∧ e = .returned (.int .u64 (v : Int)) ∧ w'.heap[g]? = some (TkrC m A n c (r : Int) bad)) ∨ (numT l a = none ∧ e = .returned (.int .u64 0) ∧ w'.heap[g]? = some (TkrC m A n c (a : Int) true)))
set_option maxRecDepth 100000 in
set_option maxHeartbeats 1600000 in
theorem tnumber_any (m : Int) (A : Option Addr) (n c : Nat) (l : List Nat) (a : Nat) (bad : Bool) (B g : Nat) (w : World) (hg : w.heap[g]? = some (TkrC m A n c (a : Int) bad)) (hr : Rd w B 1 A n (bs l)) (hb8 : ∀ x ∈ l, x < 256) (hnc : n ≤ c ∧ c ≤ 9223372036854775807) :
    Calls Tryz.prog 245 #[.pointer (some ⟨g, 0, none⟩)] w (TNumEnd m A n c l a bad g w) := by
  have hgl := (Array.getElem?_eq_some_iff.1 hg).1
  obtain ⟨x, y, z, hx⟩ : ∃ x y z, getS l (a : Int) = (x, y, z) := ⟨_, _, _, rfl⟩
  have c1 := cell_of_row w _ 1 _ _ _ hg
  have c2 := cell_of_row w _ 2 _ _ _ hg
  have z2 := frozen_of_row w g 2 _ _ hg
  have z3 := frozen_of_row w g 3 _ _ hg
  have c3 := cell_of_row w _ 3 _ _ _ hg
  simp at c1 c2 c3
  have HX := Lib_hid hx
  have HB := Lib_hid hb8
  have hnum : numT l a = if z = 0 then some (x, y) else none := by unfold numT; rw [hx]
  have HNU := Lib_hid hnum
  have HNE : Hid (∀ (w' : World) (e : Ending), w.grownBy w' (some g) → ((∃ v r, numT l a = some (v, r) ∧ e = .returned (.int .u64 (v : Int)) ∧ w'.heap[g]? = some (TkrC m A n c (r : Int) bad)) ∨ (numT l a = none ∧ e = .returned (.int .u64 0) ∧ w'.heap[g]? = some (TkrC m A n c (a : Int) true))) → TNumEnd m A n c l a bad g w e w') := fun w' e h1 h2 => ⟨h1, h2⟩
  have HG := Lib_hid hg
  have QG : Hid (∀ q, (w.drewN q).heap[g]? = some (TkrC m A n c (a : Int) bad)) := fun q => hg
  have QR : Hid (∀ q, w.grownBy (w.drewN q) (some g)) := fun q => grow_below (below_drew_ (Below.refl _ _)) (some g)
  by_cases hz : z = 0
  · subst hz
    have hz0 : ((0 : Int) != 0) = false := by decide
    clear hx hb8 hnum hg
    go_enter Tryz.func245, Tryz.ntmps245
    go_wp2
    go_quiet ((go_at_call 173; exact vget_quiet4 x y 0 HX.out hr HB.out hnc.1 hnc.2))
    have HB2 : Hid (((w.drewN nq).setCell ⟨g, 2, none⟩ (.int .i64 (y : Int))).heap[g]? = some (TkrC m A n c (y : Int) bad)) := Joins.block_setCell (i := 2) (QG.out nq) _
    have HX : Hid (TNumEnd m A n c l a bad g w (.returned (.int .u64 (x : Int))) ((w.drewN nq).setCell ⟨g, 2, none⟩ (.int .i64 (y : Int)))) := HNE.out _ _ ((QR.out nq).trans (grow_set _ g 2 _)) (.inl ⟨x, y, by simpa using HNU.out, rfl, HB2.out⟩)
    go_wp2_with fail
    go_ret
    exact HX.out
  · have hz0 : ((z : Int) != 0) = true := by simpa using hz
    have HZ := Lib_hid hz
    have hz1 : ¬ (z : Int) = 0 := by omega
    have hz3 : ((z : Int) == 0) = false := by simpa using hz
    clear hx hb8 hnum hg hz
    go_enter Tryz.func245, Tryz.ntmps245
    go_wp2
    go_quiet ((go_at_call 173; exact vget_quiet4 x y z HX.out hr HB.out hnc.1 hnc.2))
    have HB2 : Hid (((w.drewN nq).setCell ⟨g, 3, none⟩ (.bool true)).heap[g]? = some (TkrC m A n c (a : Int) true)) := Joins.block_setCell (i := 3) (QG.out nq) _
    have HX : Hid (TNumEnd m A n c l a bad g w (.returned (.int .u64 0)) ((w.drewN nq).setCell ⟨g, 3, none⟩ (.bool true))) := HNE.out _ _ ((QR.out nq).trans (grow_set _ g 3 _)) (.inr ⟨by rw [HNU.out, if_neg HZ.out], rfl, HB2.out⟩)
    go_wp2_with fail
    go_ret
    exact HX.out
theorem tmany_num (m : Int) (A : Option Addr) (n c : Nat) (l : List Nat) (a : Nat) (bad : Bool) (B g : Nat) (w : World) (hg : w.heap[g]? = some (TkrC m A n c (a : Int) bad)) (hr : Rd w B 1 A n (bs l)) (hb8 : ∀ x ∈ l, x < 256) (hnc : n ≤ c ∧ c ≤ 9223372036854775807) :
    Calls Tryz.prog 246 #[.pointer (some ⟨g, 0, none⟩), .int .i64 2] w (TNumEnd m A n c l a bad g w) := by
  have TN := tnumber_any m A n c l a bad B g w hg hr hb8 hnc
  have HT : Hid (∀ e w', TNumEnd m A n c l a bad g w e w' → ∃ v : Nat, e = .returned (.int .u64 (v : Int)) ∧ TNumEnd m A n c l a bad g w (.returned (.int .u64 (v : Int))) w') := fun e w' h => by
    have h' := h
    obtain ⟨-, ⟨v, r, -, rfl, -⟩ | ⟨-, rfl, -⟩⟩ := h'
    · exact ⟨v, rfl, h⟩
    · exact ⟨0, rfl, h⟩
  have TN : Calls Tryz.prog 245 #[.pointer (some ⟨g, 0, none⟩)] w (fun e w' => ∃ v : Nat, e = .returned (.int .u64 (v : Int)) ∧ TNumEnd m A n c l a bad g w (.returned (.int .u64 (v : Int))) w') := TN.mono fun e w' h => HT.out e w' h
  clear hg hr hb8
  go_enter Tryz.func246, Tryz.ntmps246
  go_wp2_with fail
  refine TN.mono ?_
  rintro e w1 ⟨v, rfl, h⟩
  go_wp2_with fail
  go_ret
  exact h
theorem tmany_fix (p : Nat) (hp : p ≤ 1) (g : Nat) (w : World) :
    Calls Tryz.prog 246 #[.pointer (some ⟨g, 0, none⟩), .int .i64 (p : Int)] w fun e w' => e = .returned (.int .u64 (p : Int)) ∧ w = w' := by
  have h2 : ((p : Int) == 2) = false := by simp; omega
  have hw : IntKind.u64.wrap (p : Int) = p := IntWalk.u64_in _ (by omega)
  go_enter Tryz.func246, Tryz.ntmps246
  go_wp2_with fail
  go_ret
  exact ⟨rfl, rfl⟩
def TKindEnd (m : Int) (A : Option Addr) (n c : Nat) (l : List Nat) (a : Nat) (bad : Bool) (g : Nat) (w : World) (e : Ending) (w' : World) : Prop :=
  e = .returned (.int .i64 ((kindT l a).1 : Nat)) ∧ w.grownBy w' (some g) ∧ w'.heap[g]? = some (TkrC m A n c ((kindT l a).2 : Nat) bad)
set_option maxRecDepth 100000 in
set_option maxHeartbeats 1600000 in
theorem tkind_any (m : Int) (A : Option Addr) (n c : Nat) (l : List Nat) (a : Nat) (bad : Bool) (B g : Nat) (w : World) (hg : w.heap[g]? = some (TkrC m A n c (a : Int) bad)) (hr : Rd w B 1 A n (bs l)) (hB : B ≤ g) (hb8 : ∀ x ∈ l, x < 256) (hnc : n ≤ c ∧ c ≤ 9223372036854775807) :
    Calls Tryz.prog 244 #[.pointer (some ⟨g, 0, none⟩)] w (TKindEnd m A n c l a bad g w) := by
  have hgl := (Array.getElem?_eq_some_iff.1 hg).1
  have hln : l.length = n := hr.count
  have c1 := cell_of_row w _ 1 _ _ _ hg
  have c2 := cell_of_row w _ 2 _ _ _ hg
  have z2 := frozen_of_row w g 2 _ _ hg
  simp at c1 c2
  have HG := Lib_hid hg
  by_cases ha : a < n
  · have hk : kindT l a = (l.getD a 0, a + 1) := by unfold kindT; rw [if_pos (by omega)]
    have hle : decide ((n : Int) ≤ (a : Int)) = false := by simp; omega
    obtain ⟨ad, rfl, hadB, hby⟩ := hr.byte ha
    have hx8 : l.getD a 0 < 256 := by
      rw [List.getD_eq_getElem?_getD, List.getElem?_eq_getElem (by omega)]
      exact hb8 _ (List.getElem_mem _)
    have hwr : IntKind.i64.wrap ((a : Int) + 1) = (a : Int) + 1 := IntWalk.i64_in _ (by omega)
    have hwr2 : IntKind.i64.wrap ((a : Int) + 1 - 1) = (a : Int) := by rw [show (a : Int) + 1 - 1 = a by omega]; exact IntWalk.i64_in _ (by omega)
    have hlt : (a : Int) < (n : Int) := by omega
    have h0 : (0 : Int) ≤ (a : Int) := by omega
    have QG : Hid (∀ q, (w.drewN q).heap[g]? = some (TkrC m (some ad) n c (a : Int) bad)) := fun q => hg
    have QR : Hid (∀ q, w.grownBy (w.drewN q) (some g)) := fun q => grow_below (below_drew_ (Below.refl _ _)) (some g)
    have HE : Hid (∀ q, TKindEnd m (some ad) n c l a bad g w (.returned (.int .i64 ((l.getD a 0 : Nat) : Int))) (((w.drewN q).setCell ⟨g, 2, none⟩ (.int .i64 ((a : Int) + 1))))) := fun q => by
      unfold TKindEnd
      rw [hk]
      exact ⟨rfl, (QR.out q).trans (grow_set _ g 2 _), Joins.block_setCell (i := 2) (QG.out q) _⟩
    have hwc : IntKind.i64.wrap ((l.getD a 0 : Nat) : Int) = ((l.getD a 0 : Nat) : Int) := IntWalk.i64_in _ (by omega)
    have HBY : Hid (∀ q v, ((w.drewN q).setCell ⟨g, 2, none⟩ v).cell? (ad.add a) = some (.int .u8 ((l.getD a 0 : Nat) : Int))) := fun q v => by
      refine (World.cell?_of_block (Below.heap_setCell (w.drewN q) ⟨g, 2, none⟩ v _ ?_)).trans hby
      rw [add_block]; show ad.block ≠ g; omega
    clear hg hr hb8 hk hby
    generalize l.getD a 0 = x at *
    go_enter Tryz.func244, Tryz.ntmps244
    go_wp2
    go_quiet (fail)
    go_upto_region 4 with (fail)
    have hg2 : ((w.drewN nq).setCell ⟨g, 2, none⟩ (.int .i64 ((a : Int) + 1))).heap[g]? = some (TkrC m (some ad) n c ((a : Int) + 1) bad) := Joins.block_setCell (i := 2) (QG.out nq) _
    have b0 := HBY.out nq (.int .i64 ((a : Int) + 1))
    have e1 := cell_of_row _ _ 1 _ _ _ hg2
    have e2 := cell_of_row _ _ 2 _ _ _ hg2
    simp at e1 e2
    have HF := Lib_hid (HE.out nq)
    have e0 := cell_of_row _ _ 0 _ _ _ hg2
    clear hg2 c1 c2 z2
    generalize (w.drewN nq).setCell ⟨g, 2, none⟩ (.int .i64 ((a : Int) + 1)) = w2 at *
    have HF2 : Hid (∀ q, TKindEnd m (some ad) n c l a bad g w (.returned (.int .i64 ((x : Nat) : Int))) (w2.drewN q)) := fun q =>
      ⟨HF.out.1, HF.out.2.1.trans (grow_below (below_drew_ (Below.refl _ _)) (some g)), HF.out.2.2⟩
    clear HF HE
    go_quiet (fail)
    go_wp2_with fail
    go_ret
    exact HF2.out _
  · have hk : kindT l a = (0, a) := by unfold kindT; rw [if_neg (by omega)]
    have hle : decide ((n : Int) ≤ (a : Int)) = true := by simp; omega
    have HF : Hid (∀ q, TKindEnd m A n c l a bad g w (.returned (.int .i64 0)) (w.drewN q)) := fun q => by
      unfold TKindEnd
      rw [hk]
      exact ⟨rfl, grow_below (below_drew_ (Below.refl _ _)) (some g), hg⟩
    clear hg hr hb8 hk
    go_enter Tryz.func244, Tryz.ntmps244
    go_wp2
    go_quiet (fail)
    go_wp2_with fail
    go_ret
    exact HF.out _
end Go.Proofs.YtdmoknnnlfkfoaaGreatDoor

namespace Go.Proofs.YtdmoknnnlfkfoaaGreatDoor
open Go Go.RowKit
set_option linter.unusedVariables false
theorem below_of (w : World) : Below w.heap.size w w := Below.refl _ _
set_option maxRecDepth 100000 in
theorem rget_out (A : Option Addr) (n c : Nat) (a : Int) (w : World) (h : a < 0 ∨ (n : Int) < a) :
    Calls Tryz.prog 103 #[.slice A n c, .int .i64 a] w fun e w' => e = .returned (tup (0, 0, 2)) ∧ Below w.heap.size w w' := by
  by_cases h0 : a < 0
  · go_enter Tryz.func103, Tryz.ntmps103
    go_wp2
    go_ret3
    exact ⟨rfl, below_of _⟩
  · have h1 : (n : Int) < a := by omega
    go_enter Tryz.func103, Tryz.ntmps103
    go_wp2
    go_ret3
    exact ⟨rfl, below_of _⟩
theorem horn_wrap (u x : Nat) : IntKind.u64.wrap (IntKind.u64.wrap ((u : Int) * 128) + (x : Int) % 128) = (((u * 128 + x % 128) % 18446744073709551616 : Nat) : Int) := by
  rw [IntKind.wrap_u64, IntKind.wrap_u64]; omega
theorem agree_take {t r : List Nat} {k : Nat} (h : Agree t r (k + 1)) (hl : t.length = k + 1) (hk : k < r.length) : t = r.take (k + 1) := by
  apply List.ext_getElem
  · rw [List.length_take]; omega
  · intro i h1 h2
    have := h i (by omega)
    rw [List.getD_eq_getElem?_getD, List.getD_eq_getElem?_getD, List.getElem?_eq_getElem h1, List.getElem?_eq_getElem (by omega)] at this
    simpa using this
theorem take_getD {t r : List Nat} {k i : Nat} (h : t = r.take (k + 1)) (hi : i ≤ k) : t.getD i 0 = r.getD i 0 := by
  subst h
  simp only [List.getD_eq_getElem?_getD, List.getElem?_take]
  rw [if_pos (by omega)]
set_option maxRecDepth 100000 in
theorem rget_in (B : Nat) (A : Option Addr) (n c : Nat) (l : List Nat) (a : Nat) (w : World) (h : Rd w B 1 A n (bs l)) (hb : ∀ x ∈ l, x < 256) (hc : n ≤ 140737488355300) (ha : a ≤ n) (hB : B ≤ w.heap.size) :
    Calls Tryz.prog 103 #[.slice A n c, .int .i64 (a : Int)] w fun e w' => e = .returned (tup (getS l a)) ∧ Below w.heap.size w w' := by
  have hl := h.count
  obtain ⟨r, hr⟩ : ∃ r, r = l.drop a := ⟨_, rfl⟩
  have hbr : ∀ x ∈ r, x < 256 := fun x hx => hb x (by rw [hr] at hx; exact List.mem_of_mem_drop hx)
  have hg : ∀ k, l.getD (a + k) 0 = r.getD k 0 := by intro k; rw [hr]; simp [List.getD_eq_getElem?_getD]
  have hrl : a + r.length = n := by rw [hr, List.length_drop]; omega
  have HR : Hid (getS l a = ans a (got r)) := by
    unfold Hid getS
    rw [if_neg (by omega), Int.toNat_natCast, hr]
  have HL := Lib_hid hrl
  have HG := Lib_hid hg
  have HB := Lib_hid hbr
  have hx256 : Hid (∀ k, r.getD k 0 < 256) := by
    intro k
    rw [List.getD_eq_getElem?_getD]
    cases hk : r[k]? with
    | none => simp
    | some x => simp only [Option.getD_some]; exact hbr x (List.mem_of_getElem? hk)
  clear hl hr hbr hg hrl hb
  go_enter Tryz.func103, Tryz.ntmps103
  go_wp2
  go_loop [7] (fun i => ∃ k : Nat, i = .int .i64 k ∧ k ≤ 10 ∧ a + k ≤ n ∧ AllMore r k) (fun i => 10 - (intOf i).toNat)
  case atStart => exact ⟨0, rfl, by omega, by omega, AllMore.zero r⟩
  case round =>
    obtain ⟨k, rfl, hk10, hkn, hM⟩ := hrel
    by_cases hten : k = 10
    · subst hten
      have HF : Hid (getS l a = (0, 0, 10)) := by unfold Hid; rw [HR.out, got_ten hM (by have := HL.out; omega)]; rfl
      clear hM
      go_wp2
      go_ret3
      rw [HF.out]
      exact ⟨rfl, below_of _⟩
    · by_cases hend : a + k = n
      · have HF : Hid (getS l a = (0, 0, 4)) := by unfold Hid; rw [HR.out, got_short hM (by omega) (by have := HL.out; omega)]; rfl
        have hk9 : k < 10 := by omega
        have hge : n ≤ a + k := by omega
        clear hM hend hten
        go_wp2
        go_ret3
        rw [HF.out]
        exact ⟨rfl, below_of _⟩
      · have hk9 : k < 10 := by omega
        have hlt : a + k < n := by omega
        obtain ⟨ad, hA, hadB, hcell⟩ := h.byte hlt
        subst hA
        rw [HG.out k] at hcell
        have hx := hx256.out k
        obtain ⟨x, hX⟩ : ∃ x, x = r.getD k 0 := ⟨_, rfl⟩
        rw [← hX] at hcell hx
        have HX := Lib_hid hX
        clear hX hten hend
        by_cases hc2 : 128 ≤ x
        · have hM' := hM.succ (by rw [← HX.out]; exact hc2)
          clear hM
          go_wp2
          go_round
          case rel => exact ⟨k + 1, by go_num, by omega, by omega, hM'⟩
          case measure => simp [intOf]; omega
        · have hgot : Hid (∀ v, v = val (r.take (k + 1)) % 18446744073709551616 → got r = if enc v = r.take (k + 1) then .num v (k + 1) else .err 10) :=
            got_by HB.out hM hk9 (by have := HL.out; omega) (by rw [← HX.out]; omega)
          have hkr : k < r.length := by have := HL.out; omega
          clear hM
          go_wp2
          go_loop [8, 9] (fun s z => ∃ (j u : Nat) (q : Int), z = .int .i64 q ∧ s = .int .u64 u ∧ j ≤ k + 1 ∧ (u : Int) ≤ 18446744073709551615 ∧ Hid (q = (j : Int) - 1) ∧ Hid (u = horn r k j)) (fun _ z => (intOf z + 1).toNat)
          case atStart => exact ⟨k + 1, 0, k, rfl, rfl, by omega, by omega, by unfold Hid; omega, (horn_top hkr).symm⟩
          case round =>
            obtain ⟨j, u, q, rfl, rfl, hj, hu, hq, hH⟩ := hrel
            by_cases hj0 : j = 0
            · subst hj0
              obtain rfl : q = -1 := by have := hq.out; omega
              have hV : u = val (r.take (k + 1)) % 18446744073709551616 := hH.out
              have HQ := Lib_hid (hgot.out u hV)
              have hten := enc_ten (v := u) (by omega)
              obtain ⟨t, ht⟩ : ∃ t, t = enc u := ⟨_, rfl⟩
              have P := rput_any 10 u w hten (by omega) hu
              rw [← ht] at P hten
              have HT := Lib_hid ht
              clear hV hH hgot ht
              by_cases hlen : t.length = k + 1
              · have HLen := Lib_hid hlen
                have hne : (((t.length : Nat) : Int) != (k : Int) + 1) = false := by rw [hlen]; simp
                clear hlen
                go_wp2_with (go_at_call 62; refine P.mono ?_; rintro e w1 ⟨A1, c1, rfl, ho1, hb1⟩)
                have hr1 := Rd.own ho1
                have h1 := h.below (hb1.mono hB)
                go_loopw [11] (fun i wr => ∃ i' q' : Nat, i = .int .i64 i' ∧ i' ≤ k + 1 ∧ Agree t r i' ∧ wr = w1.drewN q') (fun i _ => (k + 1) - (intOf i).toNat)
                case atStart => exact ⟨0, 0, rfl, by omega, Agree.zero _ _, rfl⟩
                case round =>
                  obtain ⟨i, q', rfl, hi, hag, rfl⟩ := hrel
                  by_cases hik : i ≤ k
                  · obtain ⟨ad1, hA1, _, c1⟩ := hr1.byte (k := i) (by have := HLen.out; omega)
                    subst hA1
                    obtain ⟨ad', hA', _, c2⟩ := h1.byte (k := a + i) (by omega)
                    obtain rfl : ad = ad' := by injection hA'
                    rw [HG.out i] at c2
                    have hti : i < t.length := by have := HLen.out; omega
                    clear hA'
                    by_cases he : t.getD i 0 = r.getD i 0
                    · have hag' := hag.succ he
                      rw [← he] at c2
                      clear hag he h h1 hr1
                      go_wp2
                      go_quiet (fail)
                      go_wp2
                      go_roundw
                      case rel => exact ⟨i + 1, q' + nq, by go_num, by omega, hag', rfl⟩
                      case measure => simp [intOf]; omega
                    · have HF : Hid (getS l a = (0, 0, 10)) := by
                        unfold Hid; rw [HR.out, HQ.out, if_neg]; rfl
                        intro hq; exact he (take_getD (by rw [HT.out]; exact hq) hik)
                      obtain ⟨x1, hx1⟩ : ∃ x1, x1 = t.getD i 0 := ⟨_, rfl⟩
                      obtain ⟨x2, hx2⟩ : ∃ x2, x2 = r.getD i 0 := ⟨_, rfl⟩
                      rw [← hx1] at c1
                      rw [← hx2] at c2
                      have hd : (((x1 : Nat) : Int) != ((x2 : Nat) : Int)) = true := by simp only [int_bne]; rw [hx1, hx2]; simpa using he
                      clear hag he h h1 hr1 hx1 hx2
                      go_wp2
                      go_quiet (fail)
                      go_wp2
                      go_ret3
                      rw [HF.out]
                      exact ⟨rfl, below_drew_ (below_drew_ hb1)⟩
                  · obtain rfl : i = k + 1 := by omega
                    have HF : Hid (getS l a = (u, a + (k + 1), 0)) := by
                      unfold Hid; rw [HR.out, HQ.out, if_pos]; rfl
                      rw [← HT.out]; exact agree_take hag HLen.out hkr
                    clear hag
                    go_wp2
                    go_ret3
                    rw [HF.out]
                    exact ⟨by unfold tup; simp [go_sem]; omega, below_drew_ hb1⟩
              · have HF : Hid (getS l a = (0, 0, 10)) := by
                  unfold Hid; rw [HR.out, HQ.out, if_neg]; rfl
                  rw [← HT.out]; intro hq; exact hlen (by rw [hq, List.length_take]; omega)
                have hne : (((t.length : Nat) : Int) != (k : Int) + 1) = true := by
                  rw [bne_iff_ne]; omega
                clear hlen
                go_wp2_with (go_at_call 62; refine P.mono ?_; rintro e w1 ⟨A1, c1, rfl, ho1, hb1⟩)
                go_ret3
                rw [HF.out]
                exact ⟨rfl, hb1⟩
            · obtain ⟨i, rfl⟩ : ∃ i, j = i + 1 := ⟨j - 1, by omega⟩
              obtain rfl : q = (i : Int) := by have := hq.out; omega
              obtain ⟨ad', hA', _, hcell'⟩ := h.byte (k := a + i) (by omega)
              obtain rfl : ad = ad' := by injection hA'
              rw [HG.out i] at hcell'
              have hy := hx256.out i
              obtain ⟨y, hY⟩ : ∃ y, y = r.getD i 0 := ⟨_, rfl⟩
              rw [← hY] at hcell' hy
              have HY := Lib_hid hY
              clear hY hA' hj0
              go_wp2
              go_round
              case rel =>
                refine ⟨i, (u * 128 + y % 128) % 18446744073709551616, (i : Int) - 1, rfl, ?_, by omega, by omega, rfl, ?_⟩
                · rw [horn_wrap]
                · unfold Hid; rw [horn_step hkr (by omega), ← hH.out, HY.out]
              case measure => simp [intOf]
theorem rget_any (B : Nat) (A : Option Addr) (n c : Nat) (l : List Nat) (a : Int) (w : World) (h : Rd w B 1 A n (bs l)) (hb : ∀ x ∈ l, x < 256) (hc : n ≤ 140737488355300) (hB : B ≤ w.heap.size) :
    Calls Tryz.prog 103 #[.slice A n c, .int .i64 a] w fun e w' => e = .returned (tup (getS l a)) ∧ Below w.heap.size w w' := by
  have hl := h.count
  by_cases ho : a < 0 ∨ (n : Int) < a
  · have e : getS l a = (0, 0, 2) := by unfold getS; rw [hl, if_pos ho]
    rw [e]
    exact rget_out A n c a w ho
  · obtain ⟨k, rfl⟩ : ∃ k : Nat, a = k := ⟨a.toNat, by omega⟩
    exact rget_in B A n c l k w h hb hc (by omega) hB
end Go.Proofs.YtdmoknnnlfkfoaaGreatDoor

namespace Go.Proofs.YtdmoknnnlfkfoaaGreatDoor
open Go Go.RowKit
set_option linter.unusedVariables false
theorem size_byte (wx : World) : ((sizeOf 5).run Tryz.prog wx) = .ok 1 wx := by
  obtain ⟨i0, hi, hz0, hz1, hz2⟩ := info_parts Tryz.info5
  simp [sizeOf, typeInfo, hi, hz1]
theorem elem_bytes : Tryz.prog.elem 22 = 5 := by kernel_rfl
theorem bs_take (l : List Nat) (k : Nat) : bs (l.take k) = (bs l).take k := by simp [bs, List.map_take]
theorem bs_drop (l : List Nat) (k : Nat) : bs (l.drop k) = (bs l).drop k := by simp [bs, List.map_drop]
theorem slice_lh {w : World} {B n c j k : Nat} {A : Option Addr} {xs : List Value} (h : Rd w B 1 A n xs) (hj : j ≤ k) (hk : k ≤ n) (hn : n ≤ c) :
    ∃ A2, (∀ wx, (Instr.slice 22 (.slice A n c) (some (.int .i64 (j : Int))) (some (.int .i64 (k : Int))) none).run Tryz.prog wx = .ok (.slice A2 (k - j) (c - j)) wx) ∧ Rd w B 1 A2 (k - j) ((xs.take k).drop j) := by
  have r := (h.take hk).cut (cap := c) (k := j) hj (by omega)
  simp only [Nat.mul_one] at r
  refine ⟨_, ?_, r⟩
  intro wx
  rw [run_slice_lh wx 22 A n c (by rw [elem_bytes]; exact Tryz.underlying22) .i64 .i64 j k (by omega) (by omega) (by omega), elem_bytes, size_byte]
  simp [sliced, Result.andThen]
end Go.Proofs.YtdmoknnnlfkfoaaGreatDoor

namespace Go.Proofs.YtdmoknnnlfkfoaaGreatDoor
open Go Go.RowKit
set_option linter.unusedVariables false
theorem got_put {r : List Nat} {v k : Nat} (hb : ∀ x ∈ r, x < 256) (h : got r = .num v k) : k ≤ r.length ∧ enc v = r.take k ∧ v < 18446744073709551616 := by
  have find : ∀ m, m ≤ 10 → m ≤ r.length → AllMore r m ∨ ∃ k, k < m ∧ AllMore r k ∧ r.getD k 0 < 128 := by
    intro m
    induction m with
    | zero => intro _ _; exact .inl (AllMore.zero r)
    | succ m ih =>
      intro h1 h2
      rcases ih (by omega) (by omega) with h | ⟨k, hk, hM, hc⟩
      · by_cases hc : 128 ≤ r.getD m 0
        · exact .inl (h.succ hc)
        · exact .inr ⟨m, by omega, h, by omega⟩
      · exact .inr ⟨k, by omega, hM, hc⟩
  by_cases h10 : 10 ≤ r.length
  · rcases find 10 (by omega) h10 with hM | ⟨j, hj, hM, hc⟩
    · rw [got_ten hM h10] at h; cases h
    · have G := got_by hb hM hj (by omega) hc _ rfl
      rw [G] at h
      split at h
      · rename_i he
        injection h with h1 h2
        subst h1 h2
        exact ⟨by omega, he, Nat.mod_lt _ (by decide)⟩
      · cases h
  · rcases find r.length (by omega) (Nat.le_refl _) with hM | ⟨j, hj, hM, hc⟩
    · rw [got_short hM (by omega) rfl] at h; cases h
    · have G := got_by hb hM (by omega) (by omega) hc _ rfl
      rw [G] at h
      split at h
      · rename_i he
        injection h with h1 h2
        subst h1 h2
        exact ⟨by omega, he, Nat.mod_lt _ (by decide)⟩
      · cases h
end Go.Proofs.YtdmoknnnlfkfoaaGreatDoor

namespace Go.Proofs.YtdmoknnnlfkfoaaGreatDoor
open Go Go.RowKit
set_option linter.unusedVariables false
theorem scan_err4 : ∀ (k i v : Nat) (r : List Nat) (e : Nat), scan k i v r = .err e → e = 4 ∨ e = 10 := by
  intro k
  induction k with
  | zero => intro i v r e hh; simp [scan] at hh; omega
  | succ k ih =>
    intro i v r e hh
    cases r with
    | nil => simp [scan] at hh; omega
    | cons c r =>
      simp only [scan] at hh
      split at hh
      · exact ih _ _ _ _ hh
      · split at hh
        · cases hh
        · simp at hh; omega
theorem numT_lt {l : List Nat} (hb : ∀ x ∈ l, x < 256) {a v r : Nat} (h : numT l a = some (v, r)) : v < 18446744073709551616 ∧ a + 1 ≤ r ∧ r ≤ l.length := by
  unfold numT at h
  split at h
  · rename_i hz
    injection h with h
    injection h with h1 h2
    unfold getS at hz h1 h2
    split at hz
    · cases hz
    · rename_i ho
      rw [if_neg ho] at h1 h2
      rw [Int.toNat_natCast] at hz h1 h2
      cases hg : got (l.drop a) with
      | num x k =>
        rw [hg] at h1 h2
        simp only [ans] at h1 h2
        subst h1 h2
        obtain ⟨q1, q2, q3⟩ := got_put (fun x hx => hb x (List.mem_of_mem_drop hx)) hg
        rw [List.length_drop] at q1
        have hp := enc_pos x
        rw [q2, List.length_take, List.length_drop] at hp
        exact ⟨q3, by omega, by omega⟩
      | err e =>
        rw [hg] at hz
        simp only [ans] at hz
        rcases scan_err4 _ _ _ _ _ hg with h | h <;> omega
  · cases h
structure NmT (l : List Nat) (r : Nat) (bad : Bool) (j a b ss : Nat) (bb : Bool) : Prop where
  bd : bad = true → bb = true
  ok : bad = false → (∃ vs, numsT l j r = some (vs, ss) ∧ vs.length = j ∧ bb = false ∧ a = vs.getD 0 0 ∧ b = vs.getD 1 0) ∨ (numsT l j r = none ∧ bb = true)
  a64 : a < 18446744073709551616
  b64 : b < 18446744073709551616
def NumTR (l : List Nat) (ss : Nat) (bb : Bool) (v s2 : Nat) (b2 : Bool) : Prop := (numT l ss = some (v, s2) ∧ b2 = bb) ∨ (numT l ss = none ∧ v = 0 ∧ s2 = ss ∧ b2 = true)
section
variable {l : List Nat} {r ss s2 a b v j : Nat} {bad bb b2 : Bool}
theorem NmT.zero (l : List Nat) (r : Nat) (bad : Bool) : NmT l r bad 0 0 0 r bad := ⟨fun h => h, fun h => .inl ⟨[], rfl, rfl, h, rfl, rfl⟩, by omega, by omega⟩
theorem NumTR.lt (hb : ∀ x ∈ l, x < 256) (h : NumTR l ss bb v s2 b2) : v < 18446744073709551616 := by
  rcases h with ⟨h, _⟩ | ⟨_, rfl, rfl, _⟩
  · exact (numT_lt hb h).1
  · omega
theorem NmT.next (hb : ∀ x ∈ l, x < 256) (h : NmT l r bad j a b ss bb) (hn : NumTR l ss bb v s2 b2) : (j = 0 → NmT l r bad 1 v b s2 b2) ∧ (j = 1 → NmT l r bad 2 a v s2 b2) := by
  have hv := hn.lt hb
  have hbd : bad = true → b2 = true := fun h1 => by
    rcases hn with ⟨_, e⟩ | ⟨_, _, _, e⟩
    · rw [e]; exact h.bd h1
    · exact e
  have hok : bad = false → (∃ vs, numsT l (j + 1) r = some (vs ++ [v], s2) ∧ vs.length = j ∧ b2 = false ∧ a = vs.getD 0 0 ∧ b = vs.getD 1 0) ∨ (numsT l (j + 1) r = none ∧ b2 = true) := fun h1 => by
    have hu : numsT l (j + 1) r = (numsT l j r).bind fun x => (numT l x.2).map fun y => (x.1 ++ [y.1], y.2) := rfl
    rcases h.ok h1 with ⟨vs, e1, e2, e3, e4, e5⟩ | ⟨e1, e2⟩
    · rw [e1, Option.bind_some] at hu
      simp only at hu
      rcases hn with ⟨e, eb⟩ | ⟨e, _, _, eb⟩
      · exact .inl ⟨vs, by rw [hu, e]; rfl, e2, by rw [eb, e3], e4, e5⟩
      · exact .inr ⟨by rw [hu, e]; rfl, eb⟩
    · refine .inr ⟨by rw [hu, e1]; rfl, ?_⟩
      rcases hn with ⟨_, e⟩ | ⟨_, _, _, e⟩
      · rw [e, e2]
      · exact e
  refine ⟨fun h0 => ?_, fun h0 => ?_⟩
  · subst h0
    refine ⟨hbd, fun h1 => ?_, hv, h.b64⟩
    rcases hok h1 with ⟨vs, e1, e2, e3, e4, e5⟩ | h2
    · obtain rfl : vs = [] := List.eq_nil_of_length_eq_zero e2
      exact .inl ⟨[v], e1, rfl, e3, rfl, e5⟩
    · exact .inr h2
  · subst h0
    refine ⟨hbd, fun h1 => ?_, h.a64, hv⟩
    rcases hok h1 with ⟨vs, e1, e2, e3, e4, e5⟩ | h2
    · obtain ⟨x, rfl⟩ : ∃ x, vs = [x] := by
        match vs, e2 with
        | [x], _ => exact ⟨x, rfl⟩
      exact .inl ⟨[x, v], e1, rfl, e3, e4, rfl⟩
    · exact .inr h2
end
structure TdR (l : List Nat) (d m s : Nat) (bad : Bool) (w w' : World) (k : Int) (a b n c m' : Nat) (A : Option Addr) (s' : Nat) (bad' : Bool) : Prop where
  bd : bad = true → bad' = true ∧ m' ≤ m + 1
  ok : bad = false → m' ≤ 34 ∧ ((∃ t us, tkS l d s = some (t, s') ∧ m + t.count ≤ 32 ∧ bad' = false ∧ m' = m + t.count ∧ (V.node k a b A c us).abs = t ∧ us.length = n ∧ Lies w' w.heap.size w'.heap.size (.node k a b A c us) ∧ Shp 44 w' w.heap.size (.node k a b A c us)) ∨
    ((∀ t r, tkS l d s = some (t, r) → 32 < m + t.count) ∧ bad' = true))
def TdEnd (Ab : Option Addr) (nb cb : Nat) (l : List Nat) (d m s : Nat) (bad : Bool) (g : Nat) (w : World) (e : Ending) (w' : World) : Prop :=
  ∃ (k : Int) (a b n c m' : Nat) (A : Option Addr) (s' : Nat) (bad' : Bool), e = .returned (.agg #[.int .i64 k, .int .u64 (a : Int), .int .u64 (b : Int), .slice A n c]) ∧ w.grownBy w' (some g) ∧ w'.heap[g]? = some (TkrC (m' : Int) Ab nb cb (s' : Int) bad') ∧ TdR l d m s bad w w' k a b n c m' A s' bad'
def TakeOK (Ab : Option Addr) (nb cb : Nat) (l : List Nat) (d : Nat) : Prop := ∀ (m s : Nat) (bad : Bool) (B g : Nat) (w : World), w.heap[g]? = some (TkrC (m : Int) Ab nb cb (s : Int) bad) → Rd w B 1 Ab nb (bs l) → B ≤ g → (bad = false → m ≤ 32) → m ≤ 100 →
  Calls Tryz.prog 233 #[.pointer (some ⟨g, 0, none⟩), .int .i64 ((9 - d : Nat) : Int)] w (TdEnd Ab nb cb l d m s bad g w)
structure PtT (l : List Nat) (d m s : Nat) (bad : Bool) (B2 kd a b : Nat) (W : World) (v : Value) (mm left ss : Nat) (bb : Bool) : Prop where
  bd : bad = true → bb = true ∧ mm ≤ m + 1
  ok : bad = false → mm ≤ 34 ∧ ((∃ us, TRow 44 B2 v us W ∧ bb = false ∧ mm = m + 1 + T.countL (V.absL us) ∧ mm ≤ 32 ∧ tkS l (d + 1) s = (manyT (tkS l d) left ss).map fun x => (.node kd a b (V.absL us ++ x.1), x.2)) ∨
    ((∀ t r, tkS l (d + 1) s = some (t, r) → 32 < m + t.count) ∧ bb = true))
section
variable {l : List Nat} {d m s B2 kd a b r : Nat} {bad bb : Bool}
theorem tkS_succ (h : kindT l s = (kd, r)) (h0 : kd ≠ 0) (h7 : kd ≤ 7) : tkS l (d + 1) s = (numsT l (numN kd) r).bind fun x => (cntT l kd x.2).bind fun y => (manyT (tkS l d) y.1 y.2).map fun z => (.node kd (x.1.getD 0 0) (x.1.getD 1 0) z.1, z.2) := by
  show (if (kindT l s).1 = 0 ∨ 7 < (kindT l s).1 then none else _) = _
  rw [h, if_neg (by omega)]
theorem PtT.start {ss N s2 : Nat} {b2 : Bool} (hk : kindT l s = (kd, r)) (h1 : 1 ≤ kd) (h7 : kd ≤ 7) (hm : m + 1 ≤ 32) (h : NmT l r bad (numN kd) a b ss bb)
    (hc : (cntT l kd ss = some (N, s2) ∧ b2 = bb) ∨ (cntT l kd ss = none ∧ b2 = true)) (W : World) : PtT l d m s bad B2 kd a b W (.slice none 0 0) (m + 1) N s2 b2 := by
  have hu := tkS_succ (d := d) hk (by omega) h7
  refine ⟨fun hb => ⟨?_, by omega⟩, fun hb => ⟨by omega, ?_⟩⟩
  · rcases hc with ⟨_, e⟩ | ⟨_, e⟩
    · rw [e]; exact h.bd hb
    · exact e
  rcases h.ok hb with ⟨vs, e1, e2, e3, e4, e5⟩ | ⟨e1, e2⟩
  · rw [e1, Option.bind_some] at hu
    simp only at hu
    rcases hc with ⟨e, eb⟩ | ⟨e, eb⟩
    · rw [e, Option.bind_some] at hu
      refine .inl ⟨[], TRow.nil _ _ _, by rw [eb, e3], by simp [V.absL, T.countL], by omega, ?_⟩
      rw [hu, e4, e5]
      simp [V.absL]
    · refine .inr ⟨fun t q hq => ?_, eb⟩
      rw [hu, e] at hq
      cases hq
  · refine .inr ⟨fun t q hq => ?_, ?_⟩
    · rw [hu, e1] at hq
      cases hq
    · rcases hc with ⟨_, e⟩ | ⟨_, e⟩
      · rw [e, e2]
      · exact e
theorem PtT.step {w8 w9 W w4 : World} {v v' : Value} {mm left ss : Nat} {k2 : Int} {a2 b2 n2 c2 m' s' : Nat} {A2 : Option Addr} {bad' : Bool} (h : PtT l d m s bad B2 kd a b W v mm (left + 1) ss false)
    (hn : TdR l d mm ss false w8 w9 k2 a2 b2 n2 c2 m' A2 s' bad')
    (hT : ∀ us us2, TRow 44 B2 v us W → us2.length = n2 → Lies w9 w8.heap.size w9.heap.size (.node k2 a2 b2 A2 c2 us2) → Shp 44 w9 w8.heap.size (.node k2 a2 b2 A2 c2 us2) → TRow 44 B2 v' (us ++ [.node k2 a2 b2 A2 c2 us2]) w4) :
    PtT l d m s bad B2 kd a b w4 v' m' left s' bad' := by
  have hbf : bad = false := by
    cases hb : bad with
    | false => rfl
    | true => have := (h.bd hb).1; cases this
  refine ⟨(fun hb => by rw [hbf] at hb; cases hb), fun hb => ?_⟩
  obtain ⟨h1, h2⟩ := h.ok hb
  obtain ⟨n1, n2'⟩ := hn.ok rfl
  refine ⟨n1, ?_⟩
  rcases h2 with ⟨us, hR, -, hmm, h32, hspec⟩ | ⟨-, hx⟩
  · have hu : manyT (tkS l d) (left + 1) ss = (tkS l d ss).bind fun x => (manyT (tkS l d) left x.2).map fun y => (x.1 :: y.1, y.2) := rfl
    rcases n2' with ⟨t, us2, e1, e2, e3, e4, e5, e6, hL, hS⟩ | ⟨hno, hbad⟩
    · refine .inl ⟨us ++ [.node k2 a2 b2 A2 c2 us2], hT us us2 hR e6 hL hS, e3, ?_, by omega, ?_⟩
      · rw [e4, hmm, show V.absL (us ++ [.node k2 a2 b2 A2 c2 us2]) = V.absL us ++ [t] by rw [absL_map, List.map_append, ← absL_map, List.map_cons, List.map_nil, e5], countL_append]
        simp [T.countL]
        omega
      · rw [hspec, hu, e1]
        simp only [Option.bind_some]
        cases manyT (tkS l d) left s' with
        | none => rfl
        | some x => simp [absL_map, e5]
    · refine .inr ⟨fun t r hl => ?_, hbad⟩
      rw [hspec, hu] at hl
      obtain ⟨⟨ts1, r1⟩, hl, he⟩ := Option.map_eq_some_iff.1 hl
      obtain ⟨⟨t1, r'⟩, h3, h4⟩ := Option.bind_eq_some_iff.1 hl
      obtain ⟨⟨ts', r2⟩, h5, he2⟩ := Option.map_eq_some_iff.1 h4
      injection he with e1 e2
      injection he2 with e3 e4
      subst e1 e3
      have := hno _ _ h3
      simp only [T.count, countL_append, T.countL]
      omega
  · cases hx
theorem PtT.fin {w W w' : World} {n c mm left ss : Nat} {A : Option Addr} (h : PtT l d m s bad B2 kd a b W (.slice A n c) mm left ss bb) (he : bb = false → left = 0) (hkd : kd ≤ 7) (ha : a < 18446744073709551616) (hb : b < 18446744073709551616)
    (hwB : w.heap.size ≤ B2) (hs : W.heap.size ≤ w'.heap.size) (hk : ∀ g, B2 ≤ g → g < W.heap.size → w'.heap[g]? = W.heap[g]?) : TdR l (d + 1) m s bad w w' kd a b n c mm A ss bb := by
  refine ⟨h.bd, fun hbf => ?_⟩
  obtain ⟨h1, h2⟩ := h.ok hbf
  refine ⟨h1, ?_⟩
  rcases h2 with ⟨us, hT, e0, e1, e2, e3⟩ | h2
  · obtain ⟨hn, hL, hS⟩ := (hT.keep hs hk).tree (k := kd) (a := a) (b := b) (by omega) ha hb
    have hl0 := he e0
    subst hl0
    refine .inl ⟨_, us, by rw [e3]; simp [manyT]; rfl, by rw [T.count]; omega, e0, by rw [T.count]; omega, by rw [V.abs], hn.symm, hL.more hwB (Nat.le_refl _), hS.more hwB⟩
  · exact .inr h2
theorem TdR.none0 {w w' : World} {s' m' : Nat} (hm : m' ≤ m + 1) (hm2 : bad = false → m ≤ 32) (hno : bad = false → ∀ t r, tkS l d s = some (t, r) → 32 < m + t.count) : TdR l d m s bad w w' 0 0 0 0 0 m' Option.none s' true :=
  ⟨fun _ => ⟨rfl, by omega⟩, fun hb => ⟨by have := hm2 hb; omega, .inr ⟨hno hb, rfl⟩⟩⟩
end
end Go.Proofs.YtdmoknnnlfkfoaaGreatDoor

namespace Go.Proofs.YtdmoknnnlfkfoaaGreatDoor
open Go Go.RowKit
set_option linter.unusedVariables false
section
variable {l : List Nat}
theorem numsT_len (hb : ∀ x ∈ l, x < 256) : ∀ (j a : Nat) (vs : List Nat) (r : Nat), numsT l j a = some (vs, r) → vs.length = j ∧ a ≤ r ∧ (a ≤ l.length → r ≤ l.length) ∧ ∀ v ∈ vs, v < 18446744073709551616
  | 0, a, vs, r, h => by
    injection h with h
    injection h with h1 h2
    subst h1 h2
    exact ⟨rfl, Nat.le_refl _, id, by simp⟩
  | j + 1, a, vs, r, h => by
    obtain ⟨⟨ws, r1⟩, h1, h2⟩ := Option.bind_eq_some_iff.1 h
    obtain ⟨⟨v, r2⟩, h3, h4⟩ := Option.map_eq_some_iff.1 h2
    injection h4 with e1 e2
    obtain ⟨q1, q2, q3, q4⟩ := numsT_len hb j a ws r1 h1
    obtain ⟨p1, p2, p3⟩ := numT_lt hb h3
    subst e1 e2
    refine ⟨by simp [q1], by omega, fun _ => p3, fun x hx => ?_⟩
    rcases List.mem_append.1 hx with h | h
    · exact q4 x h
    · obtain rfl : x = v := by simpa using h
      exact p1
theorem cntT_len (hb : ∀ x ∈ l, x < 256) {k a N r : Nat} (h : cntT l k a = some (N, r)) : N < 18446744073709551616 ∧ a ≤ r ∧ (a ≤ l.length → r ≤ l.length) := by
  unfold cntT at h
  split at h
  · obtain ⟨h1, h2, h3⟩ := numT_lt hb h
    exact ⟨h1, by omega, fun _ => h3⟩
  · injection h with h
    injection h with h1 h2
    subst h1 h2
    exact ⟨by split <;> omega, Nat.le_refl _, id⟩
theorem manyT_len {f : Nat → Option (T × Nat)} (hf : ∀ a t r, f a = some (t, r) → a + t.count ≤ r ∧ r ≤ l.length) : ∀ (n a : Nat) (ts : List T) (r : Nat), manyT f n a = some (ts, r) → a + T.countL ts ≤ r ∧ (a ≤ l.length → r ≤ l.length)
  | 0, a, ts, r, h => by
    injection h with h
    injection h with h1 h2
    subst h1 h2
    exact ⟨by simp [T.countL], id⟩
  | n + 1, a, ts, r, h => by
    obtain ⟨⟨t, r1⟩, h1, h2⟩ := Option.bind_eq_some_iff.1 h
    obtain ⟨⟨ts', r2⟩, h3, h4⟩ := Option.map_eq_some_iff.1 h2
    injection h4 with e1 e2
    obtain ⟨q1, q2⟩ := hf a t r1 h1
    obtain ⟨p1, p2⟩ := manyT_len hf n r1 ts' r2 h3
    subst e1 e2
    show a + (t.count + T.countL ts') ≤ r2 ∧ (a ≤ l.length → r2 ≤ l.length)
    exact ⟨by omega, fun _ => p2 q2⟩
theorem tkS_len (hb : ∀ x ∈ l, x < 256) : ∀ (d a : Nat) (t : T) (r : Nat), tkS l d a = some (t, r) → a + t.count ≤ r ∧ r ≤ l.length
  | 0, a, t, r, h => by cases h
  | d + 1, a, t, r, h => by
    obtain ⟨kd, r0, hk⟩ : ∃ kd r0, kindT l a = (kd, r0) := ⟨_, _, rfl⟩
    by_cases h0 : kd = 0 ∨ 7 < kd
    · have : tkS l (d + 1) a = none := by
        show (if (kindT l a).1 = 0 ∨ 7 < (kindT l a).1 then none else _) = _
        rw [hk, if_pos h0]
      rw [this] at h; cases h
    · rw [tkS_succ hk (by omega) (by omega)] at h
      obtain ⟨⟨vs, r1⟩, h1, h2⟩ := Option.bind_eq_some_iff.1 h
      obtain ⟨⟨N, r2⟩, h3, h4⟩ := Option.bind_eq_some_iff.1 h2
      obtain ⟨⟨ts, r3⟩, h5, h6⟩ := Option.map_eq_some_iff.1 h4
      injection h6 with e1 e2
      have hr0 : r0 = a + 1 ∧ a < l.length := by
        unfold kindT at hk
        split at hk
        · injection hk with _ e
          exact ⟨e.symm, by assumption⟩
        · injection hk with e _
          omega
      obtain ⟨-, q2, q3, -⟩ := numsT_len hb _ _ _ _ h1
      obtain ⟨-, p2, p3⟩ := cntT_len hb h3
      obtain ⟨o1, o2⟩ := manyT_len (tkS_len hb d) N r2 ts r3 h5
      subst e1 e2
      show a + (1 + T.countL ts) ≤ r3 ∧ r3 ≤ l.length
      exact ⟨by omega, o2 (p3 (q3 (by omega)))⟩
end
def posI : Option Nat → Int
  | some a => a
  | none => -1
def numO (l : List Nat) (o : Option Nat) : Nat × Option Nat := match o.bind (numT l) with
  | some (v, r) => (v, some r)
  | none => (0, none)
set_option maxRecDepth 100000 in
theorem rnumt_any (o : Option Nat) (B : Nat) (A : Option Addr) (n c : Nat) (l : List Nat) (w : World) (hr : Rd w B 1 A n (bs l)) (hb8 : ∀ x ∈ l, x < 256) (hn : n ≤ 100000) (hB : B ≤ w.heap.size) :
    Calls Tryz.prog 171 #[.slice A n c, .int .i64 (posI o)] w fun e w' => e = .returned (.tuple #[.int .u64 ((numO l o).1 : Nat), .int .i64 (posI (numO l o).2)]) ∧ Below w.heap.size w w' := by
  have G := rget_any B A n c l (posI o) w hr hb8 (by omega) hB
  cases o with
  | none =>
    have e : getS l (posI none) = (0, 0, 2) := by unfold getS; rw [if_pos (Or.inl (by decide))]
    rw [e] at G
    show Calls _ _ #[_, .int .i64 (-1)] w fun e w' => e = .returned (.tuple #[.int .u64 0, .int .i64 (-1)]) ∧ _
    have G : Calls Tryz.prog 103 #[.slice A n c, .int .i64 (-1)] w fun e w' => e = .returned (.tuple #[.int .u64 0, .int .i64 0, .int .i64 2]) ∧ Below w.heap.size w w' := G
    clear hr hb8 e
    go_enter Tryz.func171, Tryz.ntmps171
    go_wp2_with fail
    refine G.mono ?_
    rintro e w1 ⟨rfl, hb⟩
    go_wp2_with fail
    exact bodyPost_ret (v := .tuple #[.int .u64 0, .int .i64 (-1)]) (by simp [results, Tryz.results171, go_sem]) rfl ⟨rfl, hb⟩
  | some a =>
    obtain ⟨x, y, z, hx⟩ : ∃ x y z, getS l (a : Int) = (x, y, z) := ⟨_, _, _, rfl⟩
    have hnum : numT l a = if z = 0 then some (x, y) else none := by unfold numT; rw [hx]
    have ho : numO l (some a) = if z = 0 then (x, some y) else (0, none) := by
      unfold numO
      rw [Option.bind_some, hnum]
      by_cases hz : z = 0
      · rw [if_pos hz, if_pos hz]
      · rw [if_neg hz, if_neg hz]
    rw [show posI (some a) = (a : Int) from rfl, hx] at G
    have G : Calls Tryz.prog 103 #[.slice A n c, .int .i64 (a : Int)] w fun e w' => e = .returned (.tuple #[.int .u64 (x : Int), .int .i64 (y : Int), .int .i64 (z : Int)]) ∧ Below w.heap.size w w' := G
    show Calls _ _ #[_, .int .i64 (a : Int)] w _
    rw [ho]
    have h0 : decide ((a : Int) < 0) = false := by simp
    by_cases hz : z = 0
    · subst hz
      clear hr hb8 hx hnum ho
      have hzz : (((0 : Nat) : Int) != 0) = false := by decide
      show Calls _ _ _ w fun e w' => e = .returned (.tuple #[.int .u64 (x : Int), .int .i64 (y : Int)]) ∧ _
      go_enter Tryz.func171, Tryz.ntmps171
      go_wp2_with fail
      refine G.mono ?_
      rintro e w1 ⟨rfl, hb⟩
      go_wp2_with fail
      exact bodyPost_ret (v := .tuple #[.int .u64 (x : Int), .int .i64 (y : Int)]) (by simp [results, Tryz.results171, go_sem]) rfl ⟨rfl, hb⟩
    · rw [if_neg hz]
      have hzz : ((z : Int) != 0) = true := by simpa using hz
      clear hr hb8 hx hnum ho hz
      show Calls _ _ _ w fun e w' => e = .returned (.tuple #[.int .u64 0, .int .i64 (-1)]) ∧ _
      go_enter Tryz.func171, Tryz.ntmps171
      go_wp2_with fail
      refine G.mono ?_
      rintro e w1 ⟨rfl, hb⟩
      go_wp2_with fail
      exact bodyPost_ret (v := .tuple #[.int .u64 0, .int .i64 (-1)]) (by simp [results, Tryz.results171, go_sem]) rfl ⟨rfl, hb⟩
end Go.Proofs.YtdmoknnnlfkfoaaGreatDoor
