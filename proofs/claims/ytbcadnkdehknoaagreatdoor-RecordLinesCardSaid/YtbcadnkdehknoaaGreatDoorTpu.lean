/-
  Layer 4: strconv.ParseUint(s, 10, 64); the program's reader: number, mark, must.
-/
import Derived.Test.YtbcadnkdehknoaaGreatDoorTfu
import Derived.Test.YtbcadnkdehknoaaGreatDoorTpr
import Derived.Test.YtbcadnkdehknoaaGreatDoorTrw
import Derived.Shelf.Strings.SlTrimAscii
import Derived.Lib.SmallJoins
namespace Go.Proofs.YtbcadnkdehknoaaGreatDoor
open Go Go.RowKit
set_option linter.unusedVariables false

theorem parse_any (B : Nat) (s : List UInt8) (hl : s.length ≤ 1000000) (w : World) (hE : Env B w) : Calls Tryz.prog 170 #[.string ⟨s.toArray⟩, .int .i64 10, .int .i64 64] w fun e w' => Below w.heap.size w w' ∧
    ((∃ u : Nat, Lib.parseUintB 64 s = .ok u ∧ e = .returned (.tuple #[.int .u64 u, .nilIface])) ∨ ((∀ u, Lib.parseUintB 64 s ≠ .ok u) ∧ ∃ (x : Int) (N : Nat), e = .returned (.tuple #[.int .u64 x, .iface 261 (.pointer (some ⟨N, 0, none⟩))]))) := by
  obtain ⟨-, ⟨t1, p1, hv1⟩, ⟨t2, p2, hv2⟩⟩ := hE w fun _ _ => rfl
  have hsz : (⟨s.toArray⟩ : ByteArray).size = s.length := by simp [ByteArray.size]
  have hd : (⟨s.toArray⟩ : ByteArray).data.toList = s := by simp
  cases h : Lib.parseUintB 64 s with
  | ok u =>
    refine (Tryz.strconv_ParseUint_10_at64_ok ⟨s.toArray⟩ (by omega) u (by rw [hd]; exact h) w).mono fun e w' ⟨he, hw⟩ => ⟨?_, .inl ⟨u, rfl, he⟩⟩
    rcases hw with rfl | rfl
    · exact Below.refl _ _
    · exact Joins.below_bytesWorld _ _ _ _ (Nat.le_refl _)
  | range => exact (Tryz.strconv_ParseUint_10_at64_range_var ⟨s.toArray⟩ (by omega) (by rw [hd]; exact h) t2 p2 w hv2).mono fun e w' ⟨N, he, _, _, hb⟩ => ⟨hb, .inr ⟨(fun u e => by cases e), _, N, he⟩⟩
  | _ => exact (Tryz.strconv_ParseUint_10_at64_syntax_var ⟨s.toArray⟩ (by omega) (by rw [hd]; exact h) t1 p1 w hv1).mono fun e w' ⟨N, he, _, _, hb⟩ => ⟨hb, .inr ⟨(fun u e => by cases e), _, N, he⟩⟩

/-- The digits 0 to 9. -/
def digsL : List UInt8 := [48, 49, 50, 51, 52, 53, 54, 55, 56, 57]
theorem trim_any (s : List UInt8) (w : World) : Calls Tryz.prog 248 #[.string ⟨s.toArray⟩, .string ⟨#[48, 49, 50, 51, 52, 53, 54, 55, 56, 57]⟩] w fun e w' => e = .returned (.string ⟨(Lib.trimLeftS s digsL).toArray⟩) ∧ Below w.heap.size w w' := by
  have := Any.strings_TrimLeft_laid Tryz.lays161 (by kernel_rfl) ⟨s.toArray⟩ ⟨#[48, 49, 50, 51, 52, 53, 54, 55, 56, 57]⟩ w (by decide) (ascii_of_all (by decide))
  have h2 : Calls Tryz.prog (Tryz.lays161_ren.f 161) #[.string ⟨s.toArray⟩, .string ⟨#[48, 49, 50, 51, 52, 53, 54, 55, 56, 57]⟩] w fun e w' => e = .returned (.string ⟨(Lib.trimLeftS s digsL).toArray⟩) ∧ Below w.heap.size w w' := by simpa [digsL] using this
  exact h2

/-- The number that a text begins with, and the rest. -/
def restS (s : List UInt8) : List UInt8 := Lib.trimLeftS s digsL
def digS (s : List UInt8) : List UInt8 := s.take (s.length - (restS s).length)
def numS (s : List UInt8) : Option (Nat × List UInt8) :=
  match Lib.parseUintB 64 (digS s) with
  | .ok v => if Lib.decDigits v = digS s then some (v, restS s) else none
  | _ => none
theorem rest_len (s : List UInt8) : (restS s).length ≤ s.length := by
  unfold restS Lib.trimLeftS
  exact (List.dropWhile_suffix _).length_le
theorem numS_lt {s r : List UInt8} {v : Nat} (h : numS s = some (v, r)) : v < 18446744073709551616 ∧ r.length ≤ s.length := by
  unfold numS at h
  split at h
  · rename_i u hu
    split at h
    · injection h with h
      injection h with h1 h2
      subst h1 h2
      refine ⟨?_, rest_len s⟩
      have := Lib.parseUintB_le hu
      omega
    · cases h
  · cases h


/-- The reader's box. -/
def RdrC (m : Int) (s : List UInt8) (bad : Bool) : Obj := .cells #[.int .i64 m, .string ⟨s.toArray⟩, .bool bad] 248 (0, 0)
def NumEnd4 (m : Int) (s : List UInt8) (bad : Bool) (g : Nat) (w : World) (e : Ending) (w' : World) : Prop :=
  w.grownBy w' (some g) ∧ ((∃ v r, numS s = some (v, r) ∧ e = .returned (.int .u64 (v : Int)) ∧ w'.heap[g]? = some (RdrC m r bad)) ∨ (numS s = none ∧ e = .returned (.int .u64 0) ∧ w'.heap[g]? = some (RdrC m s true)))

theorem numS_ok {s : List UInt8} {u : Nat} (h : Lib.parseUintB 64 (digS s) = .ok u) : numS s = if Lib.decDigits u = digS s then some (u, restS s) else none := by
  unfold numS; rw [h]
theorem numS_bad {s : List UInt8} (h : ∀ u, Lib.parseUintB 64 (digS s) ≠ .ok u) : numS s = none := by
  unfold numS
  split
  · rename_i u hu; exact absurd hu (h u)
  · rfl

set_option maxRecDepth 100000 in
set_option maxHeartbeats 1600000 in
theorem pnumber_any (m : Int) (s : List UInt8) (bad : Bool) (B g : Nat) (w : World) (hg : w.heap[g]? = some (RdrC m s bad)) (hE : Env B w) (hB : B ≤ g) (hl : s.length ≤ 1000000) :
    Calls Tryz.prog 236 #[.pointer (some ⟨g, 0, none⟩)] w (NumEnd4 m s bad g w) := by
  have hgl := (Array.getElem?_eq_some_iff.1 hg).1
  have TR := trim_any s w
  have hsl : ∀ W, (Instr.slice 9 (.string ⟨s.toArray⟩) none (some (.int .i64 ((s.length : Int) - ((restS s).length : Int)))) none).run Tryz.prog W = .ok (.string ⟨(digS s).toArray⟩) W := fun W => by
    have := rest_len s
    rw [run_slice_string_h W 9 ⟨s.toArray⟩ Tryz.underlying9 .i64 ((s.length : Int) - ((restS s).length : Int)) (by omega) (by simp [ByteArray.size]; omega)]
    congr 2
    apply ByteArray.ext
    rw [show ((s.length : Int) - ((restS s).length : Int)).toNat = s.length - (restS s).length by omega]
    simp [ByteArray.data_extract, digS]
  have hdl : (digS s).length ≤ 1000000 := by unfold digS; rw [List.length_take]; omega
  have HPA : Hid (∀ W, Below w.heap.size w W → Calls Tryz.prog 170 #[.string ⟨(digS s).toArray⟩, .int .i64 10, .int .i64 64] W fun e w' => Below W.heap.size W w' ∧
    ((∃ u : Nat, Lib.parseUintB 64 (digS s) = .ok u ∧ e = .returned (.tuple #[.int .u64 u, .nilIface])) ∨ ((∀ u, Lib.parseUintB 64 (digS s) ≠ .ok u) ∧ ∃ (x : Int) (N : Nat), e = .returned (.tuple #[.int .u64 x, .iface 261 (.pointer (some ⟨N, 0, none⟩))])))) := fun W h => parse_any B (digS s) hdl W (hE.under h (by omega))
  have HFM : Hid (∀ (W : World) (u : Nat), Below w.heap.size w W → u < 18446744073709551616 → Calls Tryz.prog 91 #[.int .u64 u, .int .i64 10] W fun e w' => e = .returned (.string ⟨(Lib.decDigits u).toArray⟩) ∧ Below W.heap.size W w') := fun W u h hu => fmt_any B u hu W (hE.under h (by omega))
  have HOK : Hid (∀ u, Lib.parseUintB 64 (digS s) = .ok u → numS s = if Lib.decDigits u = digS s then some (u, restS s) else none) := fun u h => numS_ok h
  have HBD : Hid ((∀ u, Lib.parseUintB 64 (digS s) ≠ .ok u) → numS s = none) := fun h => numS_bad h
  have HLT : Hid (∀ u, Lib.parseUintB 64 (digS s) = .ok u → u < 18446744073709551616) := fun u h => by have := Lib.parseUintB_le h; omega
  have hrl := rest_len s
  have TR : Calls Tryz.prog 248 #[.string ⟨s.toArray⟩, .string ⟨#[48, 49, 50, 51, 52, 53, 54, 55, 56, 57]⟩] w fun e w' => e = .returned (.string ⟨(restS s).toArray⟩) ∧ Below w.heap.size w w' := TR
  have hwr : IntKind.i64.wrap ((s.length : Int) - ((restS s).length : Int)) = (s.length : Int) - ((restS s).length : Int) := by rw [IntKind.wrap_i64]; omega
  have c1 := cell_of_row w _ 1 _ _ _ hg
  simp at c1
  have HN : Hid (NumEnd4 m s bad g w = fun e w' => w.grownBy w' (some g) ∧ ((∃ v r, numS s = some (v, r) ∧ e = .returned (.int .u64 (v : Int)) ∧ w'.heap[g]? = some (RdrC m r bad)) ∨ (numS s = none ∧ e = .returned (.int .u64 0) ∧ w'.heap[g]? = some (RdrC m s true)))) := rfl
  have HNE : Hid (∀ (w' : World) (e : Ending), w.grownBy w' (some g) → ((∃ v r, numS s = some (v, r) ∧ e = .returned (.int .u64 (v : Int)) ∧ w'.heap[g]? = some (RdrC m r bad)) ∨ (numS s = none ∧ e = .returned (.int .u64 0) ∧ w'.heap[g]? = some (RdrC m s true))) → NumEnd4 m s bad g w e w') := fun w' e h1 h2 => ⟨h1, h2⟩
  clear HN hdl hE
  generalize hrs : restS s = rs at *
  generalize hds : digS s = ds at *
  generalize hnm : numS s = nm at *
  clear hrs hds hnm
  go_enter Tryz.func236, Tryz.ntmps236
  go_wp2_with fail
  refine TR.mono ?_
  rintro e w1 ⟨rfl, hb1⟩
  have hg1 := (hb1.block g hgl).trans hg
  have c11 := cell_of_row w1 _ 1 _ _ _ hg1
  simp at c11
  clear TR c1
  go_wp2_with fail
  go_quiet (fail)
  go_wp2_with fail
  refine (HPA.out _ (by exact below_drew_ hb1)).mono ?_
  rintro e w2 ⟨hb2', hr⟩
  have hb2 : Below w.heap.size w w2 := (below_drew_ hb1 : Below w.heap.size w (w1.drewN nq)).trans (hb2'.mono hb1.size)
  have hg2 := (hb2.block g hgl).trans hg
  rcases hr with ⟨u, hu, rfl⟩ | ⟨hu, x, N, rfl⟩
  · have hF := HFM.out w2 u hb2 (HLT.out u hu)
    have hN2 := HOK.out u hu
    go_wp2_with fail
    refine hF.mono ?_
    rintro e w3 ⟨rfl, hb3⟩
    have hb3w := hb2.trans (hb3.mono hb2.size)
    have hg3 := (hb3w.block g hgl).trans hg
    have c1 := cell_of_row w3 _ 1 _ _ _ hg3
    have c2 := cell_of_row w3 _ 2 _ _ _ hg3
    have z1 := frozen_of_row w3 g 1 _ _ hg3
    have z2 := frozen_of_row w3 g 2 _ _ hg3
    simp at c1 c2
    have hgr := grow_below hb3w (some g)
    have HB1 : Hid ((w3.setCell ⟨g, 1, none⟩ (.string ⟨rs.toArray⟩)).heap[g]? = some (RdrC m rs bad)) := Joins.block_setCell (i := 1) hg3 _
    have HB2 : Hid ((w3.setCell ⟨g, 2, none⟩ (.bool true)).heap[g]? = some (RdrC m s true)) := Joins.block_setCell (i := 2) hg3 _
    generalize hdd : Lib.decDigits u = dd at *
    by_cases hq : dd = ds
    · have hqb : (dd == ds) = true := by simp [hq]
      have HX : Hid (NumEnd4 m s bad g w (.returned (.int .u64 (u : Int))) (w3.setCell ⟨g, 1, none⟩ (.string ⟨rs.toArray⟩))) := HNE.out _ _ (hgr.trans (grow_set w3 g 1 _)) (.inl ⟨u, rs, by rw [hN2, if_pos hq], rfl, HB1.out⟩)
      clear hq hN2 hF
      go_wp2_with fail
      go_ret
      exact HX.out
    · have hqb : (dd == ds) = false := by simp [hq]
      have HX : Hid (NumEnd4 m s bad g w (.returned (.int .u64 0)) (w3.setCell ⟨g, 2, none⟩ (.bool true))) := HNE.out _ _ (hgr.trans (grow_set w3 g 2 _)) (.inr ⟨by rw [hN2, if_neg hq], rfl, HB2.out⟩)
      clear hq hN2 hF
      go_wp2_with fail
      go_ret
      exact HX.out
  · have hN2 := HBD.out hu
    have c1 := cell_of_row w2 _ 1 _ _ _ hg2
    have c2 := cell_of_row w2 _ 2 _ _ _ hg2
    have z1 := frozen_of_row w2 g 1 _ _ hg2
    have z2 := frozen_of_row w2 g 2 _ _ hg2
    simp at c1 c2
    have hgr := grow_below hb2 (some g)
    have HB2 : Hid ((w2.setCell ⟨g, 2, none⟩ (.bool true)).heap[g]? = some (RdrC m s true)) := Joins.block_setCell (i := 2) hg2 _
    have HX : Hid (NumEnd4 m s bad g w (.returned (.int .u64 0)) (w2.setCell ⟨g, 2, none⟩ (.bool true))) := HNE.out _ _ (hgr.trans (grow_set w2 g 2 _)) (.inr ⟨hN2, rfl, HB2.out⟩)
    clear hN2 hu
    go_wp2_with fail
    go_ret
    exact HX.out

/-- Does a text begin with another one? -/
def MarkEnd (m : Int) (s x : List UInt8) (bad : Bool) (g : Nat) (w : World) (e : Ending) (w' : World) : Prop :=
  e = .returned (.bool (Lib.hasPrefix s x)) ∧ w.grownBy w' (some g) ∧ w'.heap[g]? = some (RdrC m (Lib.trimPrefix s x) bad)

set_option maxRecDepth 100000 in
theorem mark_any (m : Int) (s x : List UInt8) (bad : Bool) (g : Nat) (w : World) (hg : w.heap[g]? = some (RdrC m s bad)) :
    Calls Tryz.prog 247 #[.pointer (some ⟨g, 0, none⟩), .string ⟨x.toArray⟩] w (MarkEnd m s x bad g w) := by
  have CP : Calls Tryz.prog 250 #[.string ⟨s.toArray⟩, .string ⟨x.toArray⟩] w fun e w' => e = .returned (.tuple #[.string ⟨(Lib.trimPrefix s x).toArray⟩, .bool (Lib.hasPrefix s x)]) ∧ w' = w := by
    have := Tryz.strings_CutPrefix ⟨s.toArray⟩ ⟨x.toArray⟩ w
    simpa using this
  have c1 := cell_of_row w _ 1 _ _ _ hg
  have z1 := frozen_of_row w g 1 _ _ hg
  simp at c1
  have HB1 : Hid ((w.setCell ⟨g, 1, none⟩ (.string ⟨(Lib.trimPrefix s x).toArray⟩)).heap[g]? = some (RdrC m (Lib.trimPrefix s x) bad)) := Joins.block_setCell (i := 1) hg _
  have HX : Hid (MarkEnd m s x bad g w (.returned (.bool (Lib.hasPrefix s x))) (w.setCell ⟨g, 1, none⟩ (.string ⟨(Lib.trimPrefix s x).toArray⟩))) := ⟨rfl, grow_set w g 1 _, HB1.out⟩
  clear HB1 hg
  generalize Lib.trimPrefix s x = tp at *
  generalize Lib.hasPrefix s x = hp at *
  go_enter Tryz.func247, Tryz.ntmps247
  go_wp2_with (go_at_call 250; refine CP.mono ?_; rintro e w' ⟨rfl, rfl⟩)
  go_ret
  exact HX.out

/-- The reader has to read x next. -/
def MustEnd (m : Int) (s x : List UInt8) (bad : Bool) (g : Nat) (w : World) (e : Ending) (w' : World) : Prop :=
  e = .returned (.tuple #[]) ∧ w.grownBy w' (some g) ∧ w'.heap[g]? = some (RdrC m (Lib.trimPrefix s x) (bad || !Lib.hasPrefix s x))

set_option maxRecDepth 100000 in
theorem must_any (m : Int) (s x : List UInt8) (bad : Bool) (g : Nat) (w : World) (hg : w.heap[g]? = some (RdrC m s bad)) :
    Calls Tryz.prog 235 #[.pointer (some ⟨g, 0, none⟩), .string ⟨x.toArray⟩] w (MustEnd m s x bad g w) := by
  have MK := mark_any m s x bad g w hg
  have HM : Hid (∀ w', w.grownBy w' (some g) → w'.heap[g]? = some (RdrC m (Lib.trimPrefix s x) (bad || !Lib.hasPrefix s x)) → MustEnd m s x bad g w (.returned (.tuple #[])) w') := fun w' h1 h2 => ⟨rfl, h1, h2⟩
  go_enter Tryz.func235, Tryz.ntmps235
  go_wp2_with fail
  refine MK.mono ?_
  rintro e w1 ⟨rfl, hgr, hg1⟩
  clear MK
  cases hp : Lib.hasPrefix s x with
  | true =>
    have HX := Lib_hid (HM.out w1 hgr (by rw [hp]; simpa using hg1))
    clear hg1
    go_wp2_with fail
    go_end0
    exact HX.out
  | false =>
    have z2 := frozen_of_row w1 g 2 _ _ hg1
    have c2 := cell_of_row w1 _ 2 _ _ _ hg1
    simp at c2
    have HB2 : Hid ((w1.setCell ⟨g, 2, none⟩ (.bool true)).heap[g]? = some (RdrC m (Lib.trimPrefix s x) true)) := Joins.block_setCell (i := 2) hg1 _
    have HX : Hid (MustEnd m s x bad g w (.returned (.tuple #[])) (w1.setCell ⟨g, 2, none⟩ (.bool true))) := HM.out _ (hgr.trans (grow_set w1 g 2 _)) (by rw [hp]; simpa using HB2.out)
    clear hg1
    go_wp2_with fail
    go_end0
    exact HX.out

end Go.Proofs.YtbcadnkdehknoaaGreatDoor
