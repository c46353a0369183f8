/-
  Layer 4: what bytes are taken as, plainly; the program's taker.number, kind and many.
-/
import Derived.Test.YtiijdacnfhiagaaGreatDoorTli
import Derived.Test.YtiijdacnfhiagaaGreatDoorGet
namespace Go.Proofs.YtiijdacnfhiagaaGreatDoor
open Go Go.RowKit
set_option linter.unusedVariables false

/-- The number that stands at a place, and the place behind. -/
def numT (l : List Nat) (a : Nat) : Option (Nat × Nat) := if (getS l (a : Int)).2.2 = 0 then some ((getS l (a : Int)).1, (getS l (a : Int)).2.1) else none
def numsT (l : List Nat) : Nat → Nat → Option (List Nat × Nat)
  | 0, a => some ([], a)
  | j + 1, a => (numsT l j a).bind fun (vs, r) => (numT l r).map fun (v, r') => (vs ++ [v], r')
/-- How many parts a kind has, or says that it has. -/
def cntT (l : List Nat) (k r : Nat) : Option (Nat × Nat) := if 6 ≤ k then numT l r else some (if k = 5 then 1 else 0, r)
def manyT (f : Nat → Option (T × Nat)) : Nat → Nat → Option (List T × Nat)
  | 0, a => some ([], a)
  | n + 1, a => (f a).bind fun (t, a') => (manyT f n a').map fun (ts, r) => (t :: ts, r)
/-- The kind whose byte stands at a place (0: none), and the place behind. -/
def kindT (l : List Nat) (a : Nat) : Nat × Nat := if a < l.length then (l.getD a 0, a + 1) else (0, a)
/-- The tree that stands at a place, of at most so many levels, and the place behind. -/
def tkS (l : List Nat) : Nat → Nat → Option (T × Nat)
  | 0, _ => none
  | d + 1, a => if (kindT l a).1 = 0 ∨ 7 < (kindT l a).1 then none else
    (numsT l (numN (kindT l a).1) (kindT l a).2).bind fun (vs, r1) => (cntT l (kindT l a).1 r1).bind fun (n, r2) => (manyT (tkS l d) n r2).map fun (ts, r3) => (.node (kindT l a).1 (vs.getD 0 0) (vs.getD 1 0) ts, r3)

/-- The taker's box. -/
def TkrC (m : Int) (A : Option Addr) (n c : Nat) (a : Int) (bad : Bool) : Obj := .cells #[.int .i64 m, .slice A n c, .int .i64 a, .bool bad] 77 (0, 0)

theorem vget_quiet4 {B : Nat} {A : Option Addr} {n c : Nat} {l : List Nat} {a : Int} {w : World} {k : Nat} (x y z : Nat) (hx : getS l a = (x, y, z)) (h : Rd w B 1 A n (bs l)) (hb : ∀ x ∈ l, x < 256) (hn : n ≤ c) (hc : c ≤ 9223372036854775807) :
    Calls Tryz.prog 81 #[.slice A n c, .int .i64 a] (w.drewN k) fun e w'' => e = .returned (.tuple #[.int .u64 x, .int .i64 y, .int .i64 z]) ∧ ∃ q, w'' = w.drewN q := by
  have G := get_any B A n c l a (w.drewN k) (h.keep fun p _ => World.cell?_of_block rfl) hb hn hc
  rw [hx] at G
  refine G.mono ?_
  rintro e w' ⟨h1, rfl⟩
  exact ⟨h1, k, rfl⟩

def TNumEnd (m : Int) (A : Option Addr) (n c : Nat) (l : List Nat) (a : Nat) (bad : Bool) (g : Nat) (w : World) (e : Ending) (w' : World) : Prop :=
  w.grownBy w' (some g) ∧ ((∃ v r, numT l a = some (v, r) ∧ e = .returned (.int .u64 (v : Int)) ∧ w'.heap[g]? = some (TkrC m A n c (r : Int) bad)) ∨ (numT l a = none ∧ e = .returned (.int .u64 0) ∧ w'.heap[g]? = some (TkrC m A n c (a : Int) true)))

set_option maxRecDepth 100000 in
set_option maxHeartbeats 1600000 in
theorem tnumber_any (m : Int) (A : Option Addr) (n c : Nat) (l : List Nat) (a : Nat) (bad : Bool) (B g : Nat) (w : World) (hg : w.heap[g]? = some (TkrC m A n c (a : Int) bad)) (hr : Rd w B 1 A n (bs l)) (hb8 : ∀ x ∈ l, x < 256) (hnc : n ≤ c ∧ c ≤ 9223372036854775807) :
    Calls Tryz.prog 65 #[.pointer (some ⟨g, 0, none⟩)] w (TNumEnd m A n c l a bad g w) := by
  have hgl := (Array.getElem?_eq_some_iff.1 hg).1
  obtain ⟨x, y, z, hx⟩ : ∃ x y z, getS l (a : Int) = (x, y, z) := ⟨_, _, _, rfl⟩
  have c1 := cell_of_row w _ 1 _ _ _ hg
  have c2 := cell_of_row w _ 2 _ _ _ hg
  have z2 := frozen_of_row w g 2 _ _ hg
  have z3 := frozen_of_row w g 3 _ _ hg
  have c3 := cell_of_row w _ 3 _ _ _ hg
  simp at c1 c2 c3
  have HX := Lib_hid hx
  have HB := Lib_hid hb8
  have hnum : numT l a = if z = 0 then some (x, y) else none := by unfold numT; rw [hx]
  have HNU := Lib_hid hnum
  have HNE : Hid (∀ (w' : World) (e : Ending), w.grownBy w' (some g) → ((∃ v r, numT l a = some (v, r) ∧ e = .returned (.int .u64 (v : Int)) ∧ w'.heap[g]? = some (TkrC m A n c (r : Int) bad)) ∨ (numT l a = none ∧ e = .returned (.int .u64 0) ∧ w'.heap[g]? = some (TkrC m A n c (a : Int) true))) → TNumEnd m A n c l a bad g w e w') := fun w' e h1 h2 => ⟨h1, h2⟩
  have HG := Lib_hid hg
  have QG : Hid (∀ q, (w.drewN q).heap[g]? = some (TkrC m A n c (a : Int) bad)) := fun q => hg
  have QR : Hid (∀ q, w.grownBy (w.drewN q) (some g)) := fun q => grow_below (below_drew_ (Below.refl _ _)) (some g)
  by_cases hz : z = 0
  · subst hz
    have hz0 : ((0 : Int) != 0) = false := by decide
    clear hx hb8 hnum hg
    go_enter Tryz.func65, Tryz.ntmps65
    go_wp2
    go_quiet ((go_at_call 81; exact vget_quiet4 x y 0 HX.out hr HB.out hnc.1 hnc.2))
    have HB2 : Hid (((w.drewN nq).setCell ⟨g, 2, none⟩ (.int .i64 (y : Int))).heap[g]? = some (TkrC m A n c (y : Int) bad)) := Joins.block_setCell (i := 2) (QG.out nq) _
    have HX : Hid (TNumEnd m A n c l a bad g w (.returned (.int .u64 (x : Int))) ((w.drewN nq).setCell ⟨g, 2, none⟩ (.int .i64 (y : Int)))) := HNE.out _ _ ((QR.out nq).trans (grow_set _ g 2 _)) (.inl ⟨x, y, by simpa using HNU.out, rfl, HB2.out⟩)
    go_wp2_with fail
    go_ret
    exact HX.out
  · have hz0 : ((z : Int) != 0) = true := by simpa using hz
    have HZ := Lib_hid hz
    have hz1 : ¬ (z : Int) = 0 := by omega
    have hz3 : ((z : Int) == 0) = false := by simpa using hz
    clear hx hb8 hnum hg hz
    go_enter Tryz.func65, Tryz.ntmps65
    go_wp2
    go_quiet ((go_at_call 81; exact vget_quiet4 x y z HX.out hr HB.out hnc.1 hnc.2))
    have HB2 : Hid (((w.drewN nq).setCell ⟨g, 3, none⟩ (.bool true)).heap[g]? = some (TkrC m A n c (a : Int) true)) := Joins.block_setCell (i := 3) (QG.out nq) _
    have HX : Hid (TNumEnd m A n c l a bad g w (.returned (.int .u64 0)) ((w.drewN nq).setCell ⟨g, 3, none⟩ (.bool true))) := HNE.out _ _ ((QR.out nq).trans (grow_set _ g 3 _)) (.inr ⟨by rw [HNU.out, if_neg HZ.out], rfl, HB2.out⟩)
    go_wp2_with fail
    go_ret
    exact HX.out

/-- How many parts are taken: as the kind says, or as the bytes say. -/
theorem tmany_num (m : Int) (A : Option Addr) (n c : Nat) (l : List Nat) (a : Nat) (bad : Bool) (B g : Nat) (w : World) (hg : w.heap[g]? = some (TkrC m A n c (a : Int) bad)) (hr : Rd w B 1 A n (bs l)) (hb8 : ∀ x ∈ l, x < 256) (hnc : n ≤ c ∧ c ≤ 9223372036854775807) :
    Calls Tryz.prog 66 #[.pointer (some ⟨g, 0, none⟩), .int .i64 2] w (TNumEnd m A n c l a bad g w) := by
  have TN := tnumber_any m A n c l a bad B g w hg hr hb8 hnc
  have HT : Hid (∀ e w', TNumEnd m A n c l a bad g w e w' → ∃ v : Nat, e = .returned (.int .u64 (v : Int)) ∧ TNumEnd m A n c l a bad g w (.returned (.int .u64 (v : Int))) w') := fun e w' h => by
    have h' := h
    obtain ⟨-, ⟨v, r, -, rfl, -⟩ | ⟨-, rfl, -⟩⟩ := h'
    · exact ⟨v, rfl, h⟩
    · exact ⟨0, rfl, h⟩
  have TN : Calls Tryz.prog 65 #[.pointer (some ⟨g, 0, none⟩)] w (fun e w' => ∃ v : Nat, e = .returned (.int .u64 (v : Int)) ∧ TNumEnd m A n c l a bad g w (.returned (.int .u64 (v : Int))) w') := TN.mono fun e w' h => HT.out e w' h
  clear hg hr hb8
  go_enter Tryz.func66, Tryz.ntmps66
  go_wp2_with fail
  refine TN.mono ?_
  rintro e w1 ⟨v, rfl, h⟩
  go_wp2_with fail
  go_ret
  exact h
theorem tmany_fix (p : Nat) (hp : p ≤ 1) (g : Nat) (w : World) :
    Calls Tryz.prog 66 #[.pointer (some ⟨g, 0, none⟩), .int .i64 (p : Int)] w fun e w' => e = .returned (.int .u64 (p : Int)) ∧ w = w' := by
  have h2 : ((p : Int) == 2) = false := by simp; omega
  have hw : IntKind.u64.wrap (p : Int) = p := IntWalk.u64_in _ (by omega)
  go_enter Tryz.func66, Tryz.ntmps66
  go_wp2_with fail
  go_ret
  exact ⟨rfl, rfl⟩

def TKindEnd (m : Int) (A : Option Addr) (n c : Nat) (l : List Nat) (a : Nat) (bad : Bool) (g : Nat) (w : World) (e : Ending) (w' : World) : Prop :=
  e = .returned (.int .i64 ((kindT l a).1 : Nat)) ∧ w.grownBy w' (some g) ∧ w'.heap[g]? = some (TkrC m A n c ((kindT l a).2 : Nat) bad)

set_option maxRecDepth 100000 in
set_option maxHeartbeats 1600000 in
theorem tkind_any (m : Int) (A : Option Addr) (n c : Nat) (l : List Nat) (a : Nat) (bad : Bool) (B g : Nat) (w : World) (hg : w.heap[g]? = some (TkrC m A n c (a : Int) bad)) (hr : Rd w B 1 A n (bs l)) (hB : B ≤ g) (hb8 : ∀ x ∈ l, x < 256) (hnc : n ≤ c ∧ c ≤ 9223372036854775807) :
    Calls Tryz.prog 64 #[.pointer (some ⟨g, 0, none⟩)] w (TKindEnd m A n c l a bad g w) := by
  have hgl := (Array.getElem?_eq_some_iff.1 hg).1
  have hln : l.length = n := hr.count
  have c1 := cell_of_row w _ 1 _ _ _ hg
  have c2 := cell_of_row w _ 2 _ _ _ hg
  have z2 := frozen_of_row w g 2 _ _ hg
  simp at c1 c2
  have HG := Lib_hid hg
  by_cases ha : a < n
  · have hk : kindT l a = (l.getD a 0, a + 1) := by unfold kindT; rw [if_pos (by omega)]
    have hle : decide ((n : Int) ≤ (a : Int)) = false := by simp; omega
    obtain ⟨ad, rfl, hadB, hby⟩ := hr.byte ha
    have hx8 : l.getD a 0 < 256 := by
      rw [List.getD_eq_getElem?_getD, List.getElem?_eq_getElem (by omega)]
      exact hb8 _ (List.getElem_mem _)
    have hwr : IntKind.i64.wrap ((a : Int) + 1) = (a : Int) + 1 := IntWalk.i64_in _ (by omega)
    have hwr2 : IntKind.i64.wrap ((a : Int) + 1 - 1) = (a : Int) := by rw [show (a : Int) + 1 - 1 = a by omega]; exact IntWalk.i64_in _ (by omega)
    have hlt : (a : Int) < (n : Int) := by omega
    have h0 : (0 : Int) ≤ (a : Int) := by omega
    have QG : Hid (∀ q, (w.drewN q).heap[g]? = some (TkrC m (some ad) n c (a : Int) bad)) := fun q => hg
    have QR : Hid (∀ q, w.grownBy (w.drewN q) (some g)) := fun q => grow_below (below_drew_ (Below.refl _ _)) (some g)
    have HE : Hid (∀ q, TKindEnd m (some ad) n c l a bad g w (.returned (.int .i64 ((l.getD a 0 : Nat) : Int))) (((w.drewN q).setCell ⟨g, 2, none⟩ (.int .i64 ((a : Int) + 1))))) := fun q => by
      unfold TKindEnd
      rw [hk]
      exact ⟨rfl, (QR.out q).trans (grow_set _ g 2 _), Joins.block_setCell (i := 2) (QG.out q) _⟩
    have hwc : IntKind.i64.wrap ((l.getD a 0 : Nat) : Int) = ((l.getD a 0 : Nat) : Int) := IntWalk.i64_in _ (by omega)
    have HBY : Hid (∀ q v, ((w.drewN q).setCell ⟨g, 2, none⟩ v).cell? (ad.add a) = some (.int .u8 ((l.getD a 0 : Nat) : Int))) := fun q v => by
      refine (World.cell?_of_block (Below.heap_setCell (w.drewN q) ⟨g, 2, none⟩ v _ ?_)).trans hby
      rw [add_block]; show ad.block ≠ g; omega
    clear hg hr hb8 hk hby
    generalize l.getD a 0 = x at *
    go_enter Tryz.func64, Tryz.ntmps64
    go_wp2
    go_quiet (fail)
    go_upto_region 4 with (fail)
    have hg2 : ((w.drewN nq).setCell ⟨g, 2, none⟩ (.int .i64 ((a : Int) + 1))).heap[g]? = some (TkrC m (some ad) n c ((a : Int) + 1) bad) := Joins.block_setCell (i := 2) (QG.out nq) _
    have b0 := HBY.out nq (.int .i64 ((a : Int) + 1))
    have e1 := cell_of_row _ _ 1 _ _ _ hg2
    have e2 := cell_of_row _ _ 2 _ _ _ hg2
    simp at e1 e2
    have HF := Lib_hid (HE.out nq)
    have e0 := cell_of_row _ _ 0 _ _ _ hg2
    clear hg2 c1 c2 z2
    generalize (w.drewN nq).setCell ⟨g, 2, none⟩ (.int .i64 ((a : Int) + 1)) = w2 at *
    have HF2 : Hid (∀ q, TKindEnd m (some ad) n c l a bad g w (.returned (.int .i64 ((x : Nat) : Int))) (w2.drewN q)) := fun q =>
      ⟨HF.out.1, HF.out.2.1.trans (grow_below (below_drew_ (Below.refl _ _)) (some g)), HF.out.2.2⟩
    clear HF HE
    go_quiet (fail)
    go_wp2_with fail
    go_ret
    exact HF2.out _
  · have hk : kindT l a = (0, a) := by unfold kindT; rw [if_neg (by omega)]
    have hle : decide ((n : Int) ≤ (a : Int)) = true := by simp; omega
    have HF : Hid (∀ q, TKindEnd m A n c l a bad g w (.returned (.int .i64 0)) (w.drewN q)) := fun q => by
      unfold TKindEnd
      rw [hk]
      exact ⟨rfl, grow_below (below_drew_ (Below.refl _ _)) (some g), hg⟩
    clear hg hr hb8 hk
    go_enter Tryz.func64, Tryz.ntmps64
    go_wp2
    go_quiet (fail)
    go_wp2_with fail
    go_ret
    exact HF.out _


end Go.Proofs.YtiijdacnfhiagaaGreatDoor
