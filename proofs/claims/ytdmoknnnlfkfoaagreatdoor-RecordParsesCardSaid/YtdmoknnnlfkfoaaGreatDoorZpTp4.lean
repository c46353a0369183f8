/-
  Layer 4: what the library reads of the listed variables; strconv.FormatUint at base 10.
  Layer 4: strconv.ParseUint(s, 10, 64); the program's reader: number, mark, must.
  Layer 4: the program's reader.kind.
  Layer 4: what a text is read as, plainly. No program is named here, but the words.
  Layer 4: four cells at a block's head, written. No program is named here.
-/
import Derived.Test.YtdmoknnnlfkfoaaGreatDoorZpTko
import Derived.Test.YtdmoknnnlfkfoaaGreatDoorZpShf
import Derived.Lib.AppendIntMem
import Derived.BigCall
import Derived.BigGuard
import Derived.Test.YtdmoknnnlfkfoaaGreatDoorZpTse
import Derived.Test.YtdmoknnnlfkfoaaGreatDoorZpTrw
import Derived.Shelf.Strings.SlTrimAscii
import Derived.Lib.SmallJoins
import Derived.Test.YtdmoknnnlfkfoaaGreatDoorZpTpb

namespace Go.Proofs.YtdmoknnnlfkfoaaGreatDoor
open Go Go.RowKit Go.Sort Go.Lib
set_option linter.unusedVariables false
def Env (B : Nat) (w : World) : Prop := ∀ w' : World, (∀ g, g < B → w'.heap[g]? = w.heap[g]?) →
  Lib.TabIs Tryz.prog w' "internal/strconv.uint64pow10" .u64 Lib.pow10Tab ∧ (∃ tp p, w'.var? Tryz.prog "strconv.ErrSyntax" = some #[.iface tp p]) ∧ (∃ tp p, w'.var? Tryz.prog "strconv.ErrRange" = some #[.iface tp p])
theorem Env.keep {B : Nat} {w w' : World} (h : Env B w) (hk : ∀ g, g < B → w'.heap[g]? = w.heap[g]?) : Env B w' := fun w2 h2 => h w2 fun g hg => (h2 g hg).trans (hk g hg)
theorem Env.under {B B' : Nat} {w w' : World} (h : Env B w) (hb : Below B' w w') (hB : B ≤ B') : Env B w' := h.keep fun g hg => hb.block g (by omega)
set_option maxHeartbeats 3200000 in
set_option maxRecDepth 100000 in
theorem fmt_in (u : Nat) (hu64 : u < 18446744073709551616) (w : World) (htab : Lib.TabIs Tryz.prog w "internal/strconv.uint64pow10" .u64 Lib.pow10Tab) :
    Calls Tryz.prog 163 #[.int .u64 u, .int .i64 10] w fun e w' => e = .returned (.string ⟨(Lib.decDigits u).toArray⟩) ∧ Below w.heap.size w w' := by
  by_cases hs : u < 100
  · have hwr : IntKind.i64.wrap (u : Int) = (u : Int) := by rw [IntKind.wrap_i64]; omega
    have SM := Tryz.internal_strconv_small u hs w
    go_enter Tryz.func163, Tryz.ntmps163
    go_wp2_with (go_at_call 189; refine SM.mono ?_; rintro e w' ⟨rfl, rfl⟩)
    go_ret
    exact ⟨rfl, Below.refl _ _⟩
  · have hu1 : 1 ≤ u := by omega
    have hnd20 : Lib.nDigits u ≤ 20 := by have := Lib.numDigits_eq u hu1 hu64; split at this <;> omega
    have hb3 : Lib.nDigits u ≤ 24 := by omega
    have hal : Tryz.prog.arrayLen 233 = 24 := by kernel_rfl
    have hsl : ∀ W, (Instr.sliceAt 233 (.pointer (some ⟨w.heap.size, 0, none⟩)) none (some (.int .i64 (Lib.nDigits u : Int))) none).run Tryz.prog W = .ok (.slice (some ⟨w.heap.size, 0, none⟩) (Lib.nDigits u) 24) W := fun W => by
      rw [run_sliceAt_array_h W 233 ⟨w.heap.size, 0, none⟩ (by simp [Program.arrayLen, Program.elem, Tryz.underlying233]) .i64 (Lib.nDigits u : Int) (by omega) (by rw [hal]; omega)]
      go_simp
    have hH0 := Lib.holds_zero0 w 233 (Lib.nDigits u) (by omega)
    have hfmt := Tryz.internal_strconv_formatBase10 w.heap.size 0 24 u (Array.replicate (Lib.nDigits u) 0) (w.alloc (.cells Lib.zeros24 233)) hH0 (by rw [Array.size_replicate]; exact Lib.lt_pow_nDigits u) hu64 (by rw [Array.size_replicate]; omega)
    rw [Array.size_replicate] at hfmt
    have HH0 := Lib.hid hH0
    have ND := Tryz.internal_strconv_numDigits u hu1 hu64 (w.alloc (.cells Lib.zeros24 233)) (Lib.tabIs_alloc htab _)
    clear hH0 hal
    go_enter Tryz.func163, Tryz.ntmps163
    go_wp2_with (go_at_call 190; refine ND.mono ?_; rintro e w' ⟨rfl, rfl⟩)
    refine hfmt.mono ?_
    rintro e w' ⟨rfl, k, v', dk, rfl, hF⟩
    have hcv : (convert 22 9 (.slice (some ⟨w.heap.size, 0, none⟩) (Lib.nDigits u) 24)).run Tryz.prog ((putRow (fun (b : UInt8) => Value.int .u8 (b.toNat : Int)) (w.alloc (.cells Lib.zeros24 233)) w.heap.size 0 dk).drewN k) = .ok (.string ⟨(Lib.decDigits u).toArray⟩) ((putRow (fun (b : UInt8) => Value.int .u8 (b.toNat : Int)) (w.alloc (.cells Lib.zeros24 233)) w.heap.size 0 dk).drewN k) := by
      have h := run_convert_bytes_back (P := Tryz.prog) ((putRow (fun (b : UInt8) => Value.int .u8 (b.toNat : Int)) (w.alloc (.cells Lib.zeros24 233)) w.heap.size 0 dk).drewN k) 22 9 5 ⟨w.heap.size, 0, none⟩ 24 (Lib.decDigits u) Tryz.underlying22 Tryz.underlying5 Tryz.underlying9 (fun j hj => by
        rw [Lib.row_is_numeral hF j hj, Lib.add_plain, World.cell?_drewN]
        exact cell?_putRow (fun (b : UInt8) => Value.int .u8 (b.toNat : Int)) _ w.heap.size 0 _ dk HH0.out (by rw [hF.size, Array.size_replicate]) j (by rw [hF.size]; rw [Lib.decDigits_length] at hj; exact hj))
      rw [Lib.decDigits_length] at h
      exact h
    have HF : Hid (Below w.heap.size w ((putRow (fun (b : UInt8) => Value.int .u8 (b.toNat : Int)) (w.alloc (.cells Lib.zeros24 233)) w.heap.size 0 dk).drewN k)) := by
      obtain ⟨os, eo⟩ := Lib.fin_at w (.cells Lib.zeros24 233) dk k 0
      rw [eo]
      exact Lib.below_grow w.heap.size w (Nat.le_refl _) k os
    clear hF
    go_wp2
    go_ret
    exact ⟨rfl, HF.out⟩
theorem fmt_any (B u : Nat) (hu64 : u < 18446744073709551616) (w : World) (hE : Env B w) :
    Calls Tryz.prog 100 #[.int .u64 u, .int .i64 10] w fun e w' => e = .returned (.string ⟨(Lib.decDigits u).toArray⟩) ∧ Below w.heap.size w w' := by
  have HI := fmt_in u hu64 w (hE w fun _ _ => rfl).1
  clear hE
  go_enter Tryz.func100, Tryz.ntmps100
  go_wp2_with (go_at_call 163; refine HI.mono ?_; rintro e w' ⟨rfl, hb⟩)
  go_ret
  exact ⟨rfl, hb⟩
end Go.Proofs.YtdmoknnnlfkfoaaGreatDoor

namespace Go.Proofs.YtdmoknnnlfkfoaaGreatDoor
open Go Go.RowKit
set_option linter.unusedVariables false
theorem parse_any (B : Nat) (s : List UInt8) (hl : s.length ≤ 1000000) (w : World) (hE : Env B w) : Calls Tryz.prog 175 #[.string ⟨s.toArray⟩, .int .i64 10, .int .i64 64] w fun e w' => Below w.heap.size w w' ∧
    ((∃ u : Nat, Lib.parseUintB 64 s = .ok u ∧ e = .returned (.tuple #[.int .u64 u, .nilIface])) ∨ ((∀ u, Lib.parseUintB 64 s ≠ .ok u) ∧ ∃ (x : Int) (N : Nat), e = .returned (.tuple #[.int .u64 x, .iface 261 (.pointer (some ⟨N, 0, none⟩))]))) := by
  obtain ⟨-, ⟨t1, p1, hv1⟩, ⟨t2, p2, hv2⟩⟩ := hE w fun _ _ => rfl
  have hsz : (⟨s.toArray⟩ : ByteArray).size = s.length := by simp [ByteArray.size]
  have hd : (⟨s.toArray⟩ : ByteArray).data.toList = s := by simp
  cases h : Lib.parseUintB 64 s with
  | ok u =>
    refine (Tryz.strconv_ParseUint_10_at64_ok ⟨s.toArray⟩ (by omega) u (by rw [hd]; exact h) w).mono fun e w' ⟨he, hw⟩ => ⟨?_, .inl ⟨u, rfl, he⟩⟩
    rcases hw with rfl | rfl
    · exact Below.refl _ _
    · exact Joins.below_bytesWorld _ _ _ _ (Nat.le_refl _)
  | range => exact (Tryz.strconv_ParseUint_10_at64_range_var ⟨s.toArray⟩ (by omega) (by rw [hd]; exact h) t2 p2 w hv2).mono fun e w' ⟨N, he, _, _, hb⟩ => ⟨hb, .inr ⟨(fun u e => by cases e), _, N, he⟩⟩
  | _ => exact (Tryz.strconv_ParseUint_10_at64_syntax_var ⟨s.toArray⟩ (by omega) (by rw [hd]; exact h) t1 p1 w hv1).mono fun e w' ⟨N, he, _, _, hb⟩ => ⟨hb, .inr ⟨(fun u e => by cases e), _, N, he⟩⟩
def digsL : List UInt8 := [48, 49, 50, 51, 52, 53, 54, 55, 56, 57]
theorem trim_any (s : List UInt8) (w : World) : Calls Tryz.prog 248 #[.string ⟨s.toArray⟩, .string ⟨#[48, 49, 50, 51, 52, 53, 54, 55, 56, 57]⟩] w fun e w' => e = .returned (.string ⟨(Lib.trimLeftS s digsL).toArray⟩) ∧ Below w.heap.size w w' := by
  have := Any.strings_TrimLeft_laid Tryz.lays161 (by kernel_rfl) ⟨s.toArray⟩ ⟨#[48, 49, 50, 51, 52, 53, 54, 55, 56, 57]⟩ w (by decide) (ascii_of_all (by decide))
  have h2 : Calls Tryz.prog (Tryz.lays161_ren.f 161) #[.string ⟨s.toArray⟩, .string ⟨#[48, 49, 50, 51, 52, 53, 54, 55, 56, 57]⟩] w fun e w' => e = .returned (.string ⟨(Lib.trimLeftS s digsL).toArray⟩) ∧ Below w.heap.size w w' := by simpa [digsL] using this
  exact h2
def restS (s : List UInt8) : List UInt8 := Lib.trimLeftS s digsL
def digS (s : List UInt8) : List UInt8 := s.take (s.length - (restS s).length)
def numS (s : List UInt8) : Option (Nat × List UInt8) :=
  match Lib.parseUintB 64 (digS s) with
  | .ok v => if Lib.decDigits v = digS s then some (v, restS s) else none
  | _ => none
theorem rest_len (s : List UInt8) : (restS s).length ≤ s.length := by
  unfold restS Lib.trimLeftS
  exact (List.dropWhile_suffix _).length_le
theorem numS_lt {s r : List UInt8} {v : Nat} (h : numS s = some (v, r)) : v < 18446744073709551616 ∧ r.length ≤ s.length := by
  unfold numS at h
  split at h
  · rename_i u hu
    split at h
    · injection h with h
      injection h with h1 h2
      subst h1 h2
      refine ⟨?_, rest_len s⟩
      have := Lib.parseUintB_le hu
      omega
    · cases h
  · cases h
def RdrC (m : Int) (s : List UInt8) (bad : Bool) : Obj := .cells #[.int .i64 m, .string ⟨s.toArray⟩, .bool bad] 251 (0, 0)
def NumEnd4 (m : Int) (s : List UInt8) (bad : Bool) (g : Nat) (w : World) (e : Ending) (w' : World) : Prop :=
  w.grownBy w' (some g) ∧ ((∃ v r, numS s = some (v, r) ∧ e = .returned (.int .u64 (v : Int)) ∧ w'.heap[g]? = some (RdrC m r bad)) ∨ (numS s = none ∧ e = .returned (.int .u64 0) ∧ w'.heap[g]? = some (RdrC m s true)))
theorem numS_ok {s : List UInt8} {u : Nat} (h : Lib.parseUintB 64 (digS s) = .ok u) : numS s = if Lib.decDigits u = digS s then some (u, restS s) else none := by
  unfold numS; rw [h]
theorem numS_bad {s : List UInt8} (h : ∀ u, Lib.parseUintB 64 (digS s) ≠ .ok u) : numS s = none := by
  unfold numS
  split
  · rename_i u hu; exact absurd hu (h u)
  · rfl
set_option maxRecDepth 100000 in
set_option maxHeartbeats 1600000 in
theorem pnumber_any (m : Int) (s : List UInt8) (bad : Bool) (B g : Nat) (w : World) (hg : w.heap[g]? = some (RdrC m s bad)) (hE : Env B w) (hB : B ≤ g) (hl : s.length ≤ 1000000) :
    Calls Tryz.prog 236 #[.pointer (some ⟨g, 0, none⟩)] w (NumEnd4 m s bad g w) := by
  have hgl := (Array.getElem?_eq_some_iff.1 hg).1
  have TR := trim_any s w
  have hsl : ∀ W, (Instr.slice 9 (.string ⟨s.toArray⟩) none (some (.int .i64 ((s.length : Int) - ((restS s).length : Int)))) none).run Tryz.prog W = .ok (.string ⟨(digS s).toArray⟩) W := fun W => by
    have := rest_len s
    rw [run_slice_string_h W 9 ⟨s.toArray⟩ Tryz.underlying9 .i64 ((s.length : Int) - ((restS s).length : Int)) (by omega) (by simp [ByteArray.size]; omega)]
    congr 2
    apply ByteArray.ext
    rw [show ((s.length : Int) - ((restS s).length : Int)).toNat = s.length - (restS s).length by omega]
    simp [ByteArray.data_extract, digS]
  have hdl : (digS s).length ≤ 1000000 := by unfold digS; rw [List.length_take]; omega
  have HPA : Hid (∀ W, Below w.heap.size w W → Calls Tryz.prog 175 #[.string ⟨(digS s).toArray⟩, .int .i64 10, .int .i64 64] W fun e w' => Below W.heap.size W w' ∧
    ((∃ u : Nat, Lib.parseUintB 64 (digS s) = .ok u ∧ e = .returned (.tuple #[.int .u64 u, .nilIface])) ∨ ((∀ u, Lib.parseUintB 64 (digS s) ≠ .ok u) ∧ ∃ (x : Int) (N : Nat), e = .returned (.tuple #[.int .u64 x, .iface 261 (.pointer (some ⟨N, 0, none⟩))])))) := fun W h => parse_any B (digS s) hdl W (hE.under h (by omega))
  have HFM : Hid (∀ (W : World) (u : Nat), Below w.heap.size w W → u < 18446744073709551616 → Calls Tryz.prog 100 #[.int .u64 u, .int .i64 10] W fun e w' => e = .returned (.string ⟨(Lib.decDigits u).toArray⟩) ∧ Below W.heap.size W w') := fun W u h hu => fmt_any B u hu W (hE.under h (by omega))
  have HOK : Hid (∀ u, Lib.parseUintB 64 (digS s) = .ok u → numS s = if Lib.decDigits u = digS s then some (u, restS s) else none) := fun u h => numS_ok h
  have HBD : Hid ((∀ u, Lib.parseUintB 64 (digS s) ≠ .ok u) → numS s = none) := fun h => numS_bad h
  have HLT : Hid (∀ u, Lib.parseUintB 64 (digS s) = .ok u → u < 18446744073709551616) := fun u h => by have := Lib.parseUintB_le h; omega
  have hrl := rest_len s
  have TR : Calls Tryz.prog 248 #[.string ⟨s.toArray⟩, .string ⟨#[48, 49, 50, 51, 52, 53, 54, 55, 56, 57]⟩] w fun e w' => e = .returned (.string ⟨(restS s).toArray⟩) ∧ Below w.heap.size w w' := TR
  have hwr : IntKind.i64.wrap ((s.length : Int) - ((restS s).length : Int)) = (s.length : Int) - ((restS s).length : Int) := by rw [IntKind.wrap_i64]; omega
  have c1 := cell_of_row w _ 1 _ _ _ hg
  simp at c1
  have HN : Hid (NumEnd4 m s bad g w = fun e w' => w.grownBy w' (some g) ∧ ((∃ v r, numS s = some (v, r) ∧ e = .returned (.int .u64 (v : Int)) ∧ w'.heap[g]? = some (RdrC m r bad)) ∨ (numS s = none ∧ e = .returned (.int .u64 0) ∧ w'.heap[g]? = some (RdrC m s true)))) := rfl
  have HNE : Hid (∀ (w' : World) (e : Ending), w.grownBy w' (some g) → ((∃ v r, numS s = some (v, r) ∧ e = .returned (.int .u64 (v : Int)) ∧ w'.heap[g]? = some (RdrC m r bad)) ∨ (numS s = none ∧ e = .returned (.int .u64 0) ∧ w'.heap[g]? = some (RdrC m s true))) → NumEnd4 m s bad g w e w') := fun w' e h1 h2 => ⟨h1, h2⟩
  clear HN hdl hE
  generalize hrs : restS s = rs at *
  generalize hds : digS s = ds at *
  generalize hnm : numS s = nm at *
  clear hrs hds hnm
  go_enter Tryz.func236, Tryz.ntmps236
  go_wp2_with fail
  refine TR.mono ?_
  rintro e w1 ⟨rfl, hb1⟩
  have hg1 := (hb1.block g hgl).trans hg
  have c11 := cell_of_row w1 _ 1 _ _ _ hg1
  simp at c11
  clear TR c1
  go_wp2_with fail
  go_quiet (fail)
  go_wp2_with fail
  refine (HPA.out _ (by exact below_drew_ hb1)).mono ?_
  rintro e w2 ⟨hb2', hr⟩
  have hb2 : Below w.heap.size w w2 := (below_drew_ hb1 : Below w.heap.size w (w1.drewN nq)).trans (hb2'.mono hb1.size)
  have hg2 := (hb2.block g hgl).trans hg
  rcases hr with ⟨u, hu, rfl⟩ | ⟨hu, x, N, rfl⟩
  · have hF := HFM.out w2 u hb2 (HLT.out u hu)
    have hN2 := HOK.out u hu
    go_wp2_with fail
    refine hF.mono ?_
    rintro e w3 ⟨rfl, hb3⟩
    have hb3w := hb2.trans (hb3.mono hb2.size)
    have hg3 := (hb3w.block g hgl).trans hg
    have c1 := cell_of_row w3 _ 1 _ _ _ hg3
    have c2 := cell_of_row w3 _ 2 _ _ _ hg3
    have z1 := frozen_of_row w3 g 1 _ _ hg3
    have z2 := frozen_of_row w3 g 2 _ _ hg3
    simp at c1 c2
    have hgr := grow_below hb3w (some g)
    have HB1 : Hid ((w3.setCell ⟨g, 1, none⟩ (.string ⟨rs.toArray⟩)).heap[g]? = some (RdrC m rs bad)) := Joins.block_setCell (i := 1) hg3 _
    have HB2 : Hid ((w3.setCell ⟨g, 2, none⟩ (.bool true)).heap[g]? = some (RdrC m s true)) := Joins.block_setCell (i := 2) hg3 _
    generalize hdd : Lib.decDigits u = dd at *
    by_cases hq : dd = ds
    · have hqb : (dd == ds) = true := by simp [hq]
      have HX : Hid (NumEnd4 m s bad g w (.returned (.int .u64 (u : Int))) (w3.setCell ⟨g, 1, none⟩ (.string ⟨rs.toArray⟩))) := HNE.out _ _ (hgr.trans (grow_set w3 g 1 _)) (.inl ⟨u, rs, by rw [hN2, if_pos hq], rfl, HB1.out⟩)
      clear hq hN2 hF
      go_wp2_with fail
      go_ret
      exact HX.out
    · have hqb : (dd == ds) = false := by simp [hq]
      have HX : Hid (NumEnd4 m s bad g w (.returned (.int .u64 0)) (w3.setCell ⟨g, 2, none⟩ (.bool true))) := HNE.out _ _ (hgr.trans (grow_set w3 g 2 _)) (.inr ⟨by rw [hN2, if_neg hq], rfl, HB2.out⟩)
      clear hq hN2 hF
      go_wp2_with fail
      go_ret
      exact HX.out
  · have hN2 := HBD.out hu
    have c1 := cell_of_row w2 _ 1 _ _ _ hg2
    have c2 := cell_of_row w2 _ 2 _ _ _ hg2
    have z1 := frozen_of_row w2 g 1 _ _ hg2
    have z2 := frozen_of_row w2 g 2 _ _ hg2
    simp at c1 c2
    have hgr := grow_below hb2 (some g)
    have HB2 : Hid ((w2.setCell ⟨g, 2, none⟩ (.bool true)).heap[g]? = some (RdrC m s true)) := Joins.block_setCell (i := 2) hg2 _
    have HX : Hid (NumEnd4 m s bad g w (.returned (.int .u64 0)) (w2.setCell ⟨g, 2, none⟩ (.bool true))) := HNE.out _ _ (hgr.trans (grow_set w2 g 2 _)) (.inr ⟨hN2, rfl, HB2.out⟩)
    clear hN2 hu
    go_wp2_with fail
    go_ret
    exact HX.out
def MarkEnd (m : Int) (s x : List UInt8) (bad : Bool) (g : Nat) (w : World) (e : Ending) (w' : World) : Prop :=
  e = .returned (.bool (Lib.hasPrefix s x)) ∧ w.grownBy w' (some g) ∧ w'.heap[g]? = some (RdrC m (Lib.trimPrefix s x) bad)
set_option maxRecDepth 100000 in
theorem mark_any (m : Int) (s x : List UInt8) (bad : Bool) (g : Nat) (w : World) (hg : w.heap[g]? = some (RdrC m s bad)) :
    Calls Tryz.prog 247 #[.pointer (some ⟨g, 0, none⟩), .string ⟨x.toArray⟩] w (MarkEnd m s x bad g w) := by
  have CP : Calls Tryz.prog 250 #[.string ⟨s.toArray⟩, .string ⟨x.toArray⟩] w fun e w' => e = .returned (.tuple #[.string ⟨(Lib.trimPrefix s x).toArray⟩, .bool (Lib.hasPrefix s x)]) ∧ w' = w := by
    have := Tryz.strings_CutPrefix ⟨s.toArray⟩ ⟨x.toArray⟩ w
    simpa using this
  have c1 := cell_of_row w _ 1 _ _ _ hg
  have z1 := frozen_of_row w g 1 _ _ hg
  simp at c1
  have HB1 : Hid ((w.setCell ⟨g, 1, none⟩ (.string ⟨(Lib.trimPrefix s x).toArray⟩)).heap[g]? = some (RdrC m (Lib.trimPrefix s x) bad)) := Joins.block_setCell (i := 1) hg _
  have HX : Hid (MarkEnd m s x bad g w (.returned (.bool (Lib.hasPrefix s x))) (w.setCell ⟨g, 1, none⟩ (.string ⟨(Lib.trimPrefix s x).toArray⟩))) := ⟨rfl, grow_set w g 1 _, HB1.out⟩
  clear HB1 hg
  generalize Lib.trimPrefix s x = tp at *
  generalize Lib.hasPrefix s x = hp at *
  go_enter Tryz.func247, Tryz.ntmps247
  go_wp2_with (go_at_call 250; refine CP.mono ?_; rintro e w' ⟨rfl, rfl⟩)
  go_ret
  exact HX.out
def MustEnd (m : Int) (s x : List UInt8) (bad : Bool) (g : Nat) (w : World) (e : Ending) (w' : World) : Prop :=
  e = .returned (.tuple #[]) ∧ w.grownBy w' (some g) ∧ w'.heap[g]? = some (RdrC m (Lib.trimPrefix s x) (bad || !Lib.hasPrefix s x))
set_option maxRecDepth 100000 in
theorem must_any (m : Int) (s x : List UInt8) (bad : Bool) (g : Nat) (w : World) (hg : w.heap[g]? = some (RdrC m s bad)) :
    Calls Tryz.prog 235 #[.pointer (some ⟨g, 0, none⟩), .string ⟨x.toArray⟩] w (MustEnd m s x bad g w) := by
  have MK := mark_any m s x bad g w hg
  have HM : Hid (∀ w', w.grownBy w' (some g) → w'.heap[g]? = some (RdrC m (Lib.trimPrefix s x) (bad || !Lib.hasPrefix s x)) → MustEnd m s x bad g w (.returned (.tuple #[])) w') := fun w' h1 h2 => ⟨rfl, h1, h2⟩
  go_enter Tryz.func235, Tryz.ntmps235
  go_wp2_with fail
  refine MK.mono ?_
  rintro e w1 ⟨rfl, hgr, hg1⟩
  clear MK
  cases hp : Lib.hasPrefix s x with
  | true =>
    have HX := Lib_hid (HM.out w1 hgr (by rw [hp]; simpa using hg1))
    clear hg1
    go_wp2_with fail
    go_end0
    exact HX.out
  | false =>
    have z2 := frozen_of_row w1 g 2 _ _ hg1
    have c2 := cell_of_row w1 _ 2 _ _ _ hg1
    simp at c2
    have HB2 : Hid ((w1.setCell ⟨g, 2, none⟩ (.bool true)).heap[g]? = some (RdrC m (Lib.trimPrefix s x) true)) := Joins.block_setCell (i := 2) hg1 _
    have HX : Hid (MustEnd m s x bad g w (.returned (.tuple #[])) (w1.setCell ⟨g, 2, none⟩ (.bool true))) := HM.out _ (hgr.trans (grow_set w1 g 2 _)) (by rw [hp]; simpa using HB2.out)
    clear hg1
    go_wp2_with fail
    go_end0
    exact HX.out
end Go.Proofs.YtdmoknnnlfkfoaaGreatDoor

namespace Go.Proofs.YtdmoknnnlfkfoaaGreatDoor
open Go Go.RowKit
set_option linter.unusedVariables false
def wordL (k : Nat) : List UInt8 := (wordA k).toList
def kindS (s : List UInt8) : Nat × List UInt8 :=
  match [1, 2, 3, 4, 5, 6, 7].find? (fun k => Lib.hasPrefix s (wordL k)) with
  | some k => (k, Lib.trimPrefix s (wordL k))
  | none => (0, s)
theorem kindS_at {s : List UInt8} {j : Nat} (h1 : 1 ≤ j) (h7 : j ≤ 7) (hn : ∀ i, 1 ≤ i → i < j → Lib.hasPrefix s (wordL i) = false) (hy : Lib.hasPrefix s (wordL j) = true) : kindS s = (j, Lib.trimPrefix s (wordL j)) := by
  have : j = 1 ∨ j = 2 ∨ j = 3 ∨ j = 4 ∨ j = 5 ∨ j = 6 ∨ j = 7 := by omega
  unfold kindS
  rcases this with rfl | rfl | rfl | rfl | rfl | rfl | rfl <;> simp_all
theorem kindS_none {s : List UInt8} (hn : ∀ i, 1 ≤ i → i < 8 → Lib.hasPrefix s (wordL i) = false) : kindS s = (0, s) := by
  unfold kindS
  rw [List.find?_eq_none.2 (by
    intro k hk
    simp only [List.mem_cons, List.not_mem_nil, or_false] at hk
    rw [hn k (by omega) (by omega)]; simp)]
theorem kindS_le (s : List UInt8) : (kindS s).1 ≤ 7 ∧ (kindS s).2.length ≤ s.length ∧ ((kindS s).1 ≠ 0 → (kindS s).2.length < s.length) := by
  unfold kindS
  cases h : [1, 2, 3, 4, 5, 6, 7].find? (fun k => Lib.hasPrefix s (wordL k)) with
  | none => simp
  | some k =>
    have hk := List.mem_of_find?_eq_some h
    have hp : Lib.hasPrefix s (wordL k) = true := by simpa using List.find?_some h
    simp only [List.mem_cons, List.not_mem_nil, or_false] at hk
    have hl : Lib.trimPrefix s (wordL k) = s.drop (wordL k).length := by unfold Lib.trimPrefix; rw [if_pos hp]
    have hw : 1 ≤ (wordL k).length ∧ (wordL k).length ≤ s.length := by
      refine ⟨by rcases hk with rfl | rfl | rfl | rfl | rfl | rfl | rfl <;> decide, ?_⟩
      unfold Lib.hasPrefix at hp
      exact (List.isPrefixOf_iff_prefix.1 hp).length_le
    simp only
    rw [hl, List.length_drop]
    omega
theorem trim_no {s x : List UInt8} (h : Lib.hasPrefix s x = false) : Lib.trimPrefix s x = s := by unfold Lib.trimPrefix; rw [h]; rfl
def KindEnd4 (m : Int) (s : List UInt8) (bad : Bool) (g : Nat) (w : World) (e : Ending) (w' : World) : Prop :=
  e = .returned (.int .i64 ((kindS s).1 : Nat)) ∧ w.grownBy w' (some g) ∧ w'.heap[g]? = some (RdrC m (kindS s).2 bad)
set_option maxRecDepth 100000 in
set_option maxHeartbeats 1600000 in
theorem pkind_any (m : Int) (s : List UInt8) (bad : Bool) (g : Nat) (w : World) (hg : w.heap[g]? = some (RdrC m s bad)) :
    Calls Tryz.prog 234 #[.pointer (some ⟨g, 0, none⟩)] w (KindEnd4 m s bad g w) := by
  have hgl := (Array.getElem?_eq_some_iff.1 hg).1
  have KD := kinds_any w
  have HX : Hid (∀ (j : Nat), 1 ≤ j → j ≤ 7 → ∀ wx, (Instr.index 230 (.agg kindsA) (.int .i64 (j : Int))).run Tryz.prog wx = .ok (.agg #[.string ⟨(wordL j).toArray⟩, .int .i64 (partN j : Nat), .func (.func (numF j)) #[] #[], .func (.func (fitF j)) #[] #[], .func (.func (askF j)) #[] #[]]) wx) := by
    intro j h1 h7
    have : j = 1 ∨ j = 2 ∨ j = 3 ∨ j = 4 ∨ j = 5 ∨ j = 6 ∨ j = 7 := by omega
    rcases this with rfl | rfl | rfl | rfl | rfl | rfl | rfl <;> exact fun wx => by kernel_rfl
  have HX0 : Hid (∀ wx, (Instr.index 230 (.agg kindsA) (.int .i64 0)).run Tryz.prog wx = .ok (.agg #[.string ⟨#[]⟩, .int .i64 0, .nilFunc, .nilFunc, .nilFunc]) wx) := fun wx => by kernel_rfl
  have HW : Hid (∀ j, 1 ≤ j → j ≤ 7 → (wordL j == []) = false) := by
    intro j h1 h7
    have : j = 1 ∨ j = 2 ∨ j = 3 ∨ j = 4 ∨ j = 5 ∨ j = 6 ∨ j = 7 := by omega
    rcases this with rfl | rfl | rfl | rfl | rfl | rfl | rfl <;> decide
  generalize kindsA = ka at *
  go_enter Tryz.func234, Tryz.ntmps234
  go_wp2_with fail
  refine KD.mono ?_
  rintro e w1 ⟨rfl, hb1⟩
  have hg1 := (hb1.block g hgl).trans hg
  have hgr1 := grow_below hb1 (some g)
  clear KD hb1
  go_wp2
  go_loopw [6] (fun z W => ∃ j : Nat, z = .int .i64 j ∧ j ≤ 8 ∧ Hid (∀ i, 1 ≤ i → i < j → Lib.hasPrefix s (wordL i) = false) ∧ W.heap[g]? = some (RdrC m s bad) ∧ w.grownBy W (some g)) (fun z _ => 8 - (intOf z).toNat)
  case atStart => exact ⟨0, rfl, by omega, Lib_hid (fun i h1 h2 => by omega), hg1, hgr1⟩
  case round =>
    clear hg1 hgr1
    obtain ⟨j, rfl, hj, hno, hgW, hgr⟩ := hrel
    rename World => W
    by_cases h8 : j < 8
    · by_cases h0 : j = 0
      · subst h0
        have hx := HX0.out
        have hnew := below_new W (.cells #[.string ⟨#[]⟩, .int .i64 0, .nilFunc, .nilFunc, .nilFunc] 205)
        have hg2 := (hnew.block g (Array.getElem?_eq_some_iff.1 hgW).1).trans hgW
        have hgr2 := hgr.trans (grow_below hnew (some g))
        clear hgW hgr hnew
        go_wp2
        go_roundw
        case rel => exact ⟨1, by go_num, by omega, Lib_hid (fun i h1 h2 => by omega), hg2, hgr2⟩
        case measure => simp [intOf]
      · have hx := HX.out j (by omega) (by omega)
        have hw := HW.out j (by omega) (by omega)
        have hwb : wordL j ≠ [] := by intro e; rw [e] at hw; simp at hw
        have hnew := below_new W (.cells #[.string ⟨(wordL j).toArray⟩, .int .i64 (partN j : Nat), .func (.func (numF j)) #[] #[], .func (.func (fitF j)) #[] #[], .func (.func (askF j)) #[] #[]] 205)
        have hg2 := (hnew.block g (Array.getElem?_eq_some_iff.1 hgW).1).trans hgW
        have hgr2 := hgr.trans (grow_below hnew (some g))
        have MK := mark_any m s (wordL j) bad g _ hg2
        have HHIT : Hid (Lib.hasPrefix s (wordL j) = true → kindS s = (j, Lib.trimPrefix s (wordL j))) := fun h => kindS_at (by omega) (by omega) hno.out h
        have HMISS : Hid (Lib.hasPrefix s (wordL j) = false → ∀ i, 1 ≤ i → i < j + 1 → Lib.hasPrefix s (wordL i) = false) := fun h i h1 h2 => by
          rcases Nat.lt_or_ge i j with h3 | h3
          · exact hno.out i h1 h3
          · obtain rfl : i = j := by omega
            exact h
        have HTN : Hid (Lib.hasPrefix s (wordL j) = false → Lib.trimPrefix s (wordL j) = s) := trim_no
        clear hgW hgr hnew hg2
        generalize wordL j = wd at *
        generalize partN j = pn at *
        generalize numF j = f1 at *
        generalize fitF j = f2 at *
        generalize askF j = f3 at *
        go_wp2_with fail
        refine MK.mono ?_
        rintro e w3 ⟨rfl, hgr3, hg3⟩
        have hgr4 := hgr2.trans hgr3
        clear MK hgr2 hgr3
        cases hp : Lib.hasPrefix s wd with
        | true =>
          have HF : Hid (KindEnd4 m s bad g w (.returned (.int .i64 (j : Int))) w3) := by
            have := HHIT.out hp
            refine ⟨by rw [this], hgr4, by rw [this]; exact hg3⟩
          clear hg3 HHIT HMISS HTN
          go_wp2_with fail
          go_ret
          exact HF.out
        | false =>
          have HM := Lib_hid (HMISS.out hp)
          rw [HTN.out hp] at hg3
          clear HHIT HMISS HTN
          go_wp2_with fail
          go_roundw
          case rel => exact ⟨j + 1, by go_num, by omega, HM, hg3, hgr4⟩
          case measure => simp [intOf]; omega
    · obtain rfl : j = 8 := by omega
      have HF : Hid (KindEnd4 m s bad g w (.returned (.int .i64 0)) W) := by
        have := kindS_none hno.out
        refine ⟨by rw [this]; rfl, hgr, by rw [this]; exact hgW⟩
      go_wp2
      go_ret
      exact HF.out
end Go.Proofs.YtdmoknnnlfkfoaaGreatDoor

namespace Go.Proofs.YtdmoknnnlfkfoaaGreatDoor
open Go Go.RowKit
set_option linter.unusedVariables false
def numsS : Nat → List UInt8 → Option (List Nat × List UInt8)
  | 0, s => some ([], s)
  | j + 1, s => (numsS j s).bind fun (vs, r) =>
    if j = 0 then (numS r).map fun (v, r') => (vs ++ [v], r')
    else if Lib.hasPrefix r [61] then (numS (Lib.trimPrefix r [61])).map fun (v, r') => (vs ++ [v], r') else none
section
variable (f : List UInt8 → Option (T × List UInt8))
def moreS : Nat → List UInt8 → Option (List T × List UInt8)
  | 0, _ => none
  | n + 1, r => if Lib.hasPrefix r [44] then (f (Lib.trimPrefix r [44])).bind fun (t, r') => (moreS n r').map fun (ts, r2) => (t :: ts, r2)
    else if Lib.hasPrefix r [41] then some ([], Lib.trimPrefix r [41]) else none
def listS (s : List UInt8) : Option (List T × List UInt8) :=
  if Lib.hasPrefix s [40] then
    if Lib.hasPrefix (Lib.trimPrefix s [40]) [41] then some ([], Lib.trimPrefix (Lib.trimPrefix s [40]) [41])
    else (f (Lib.trimPrefix s [40])).bind fun (t, r') => (moreS f (r'.length + 1) r').map fun (ts, r2) => (t :: ts, r2)
  else none
def partsS (k : Nat) (r : List UInt8) : Option (List T × List UInt8) :=
  if k = 5 then (f r).map fun (t, r') => ([t], r') else if 6 ≤ k then listS f r else some ([], r)
end
def rdS : Nat → List UInt8 → Option (T × List UInt8)
  | 0, _ => none
  | d + 1, s => if (kindS s).1 = 0 then none else
    (numsS (numN (kindS s).1) (kindS s).2).bind fun (vs, r1) => (partsS (rdS d) (kindS s).1 r1).map fun (ts, r2) => (.node (kindS s).1 (vs.getD 0 0) (vs.getD 1 0) ts, r2)
theorem trim_le (s x : List UInt8) : (Lib.trimPrefix s x).length ≤ s.length := by
  unfold Lib.trimPrefix
  split
  · rw [List.length_drop]; omega
  · exact Nat.le_refl _
theorem trim_lt {s : List UInt8} {c : UInt8} (h : Lib.hasPrefix s [c] = true) : (Lib.trimPrefix s [c]).length < s.length := by
  have hl : 1 ≤ s.length := by
    unfold Lib.hasPrefix at h
    exact (List.isPrefixOf_iff_prefix.1 h).length_le
  unfold Lib.trimPrefix
  rw [if_pos h, List.length_drop]
  simp
  omega
theorem numsS_len : ∀ (j : Nat) (s : List UInt8) (vs : List Nat) (r : List UInt8), numsS j s = some (vs, r) → vs.length = j ∧ r.length ≤ s.length ∧ ∀ v ∈ vs, v < 18446744073709551616
  | 0, s, vs, r, h => by
    unfold numsS at h
    injection h with h
    injection h with h1 h2
    subst h1 h2
    simp
  | j + 1, s, vs, r, h => by
    unfold numsS at h
    obtain ⟨⟨vs0, r0⟩, h0, h⟩ := Option.bind_eq_some_iff.1 h
    obtain ⟨i1, i2, i3⟩ := numsS_len j s vs0 r0 h0
    have key : ∀ q, q.length ≤ r0.length → ((numS q).map fun (x : Nat × List UInt8) => (vs0 ++ [x.1], x.2)) = some (vs, r) → vs.length = j + 1 ∧ r.length ≤ s.length ∧ ∀ v ∈ vs, v < 18446744073709551616 := by
      intro q hq hm
      obtain ⟨⟨v, r'⟩, hv, he⟩ := Option.map_eq_some_iff.1 hm
      injection he with h1 h2
      subst h1 h2
      obtain ⟨l1, l2⟩ := numS_lt hv
      refine ⟨by simp [i1], by simp only; omega, fun x hx => ?_⟩
      rcases List.mem_append.1 hx with hx | hx
      · exact i3 x hx
      · obtain rfl : x = v := by simpa using hx
        exact l1
    simp only at h
    split at h
    · exact key r0 (Nat.le_refl _) h
    · split at h
      · exact key _ (trim_le _ _) h
      · cases h
theorem moreS_len {f : List UInt8 → Option (T × List UInt8)} (hf : ∀ s t r, f s = some (t, r) → r.length < s.length) : ∀ (n : Nat) (s : List UInt8) (ts : List T) (r : List UInt8), moreS f n s = some (ts, r) → r.length < s.length
  | 0, s, ts, r, h => by cases h
  | n + 1, s, ts, r, h => by
    unfold moreS at h
    split at h
    · rename_i h44
      obtain ⟨⟨t, r'⟩, h1, h⟩ := Option.bind_eq_some_iff.1 h
      obtain ⟨⟨ts', r2⟩, h2, he⟩ := Option.map_eq_some_iff.1 h
      injection he with e1 e2
      subst e1 e2
      have := hf _ _ _ h1
      have := moreS_len hf n r' ts' r2 h2
      have := trim_lt h44
      simp only at *
      omega
    · split at h
      · rename_i h41
        injection h with h
        injection h with e1 e2
        subst e1 e2
        exact trim_lt h41
      · cases h
theorem moreS_fuel {f : List UInt8 → Option (T × List UInt8)} (hf : ∀ s t r, f s = some (t, r) → r.length < s.length) : ∀ (n m : Nat) (s : List UInt8), s.length + 1 ≤ n → s.length + 1 ≤ m → moreS f n s = moreS f m s
  | 0, m, s, h, _ => by omega
  | n + 1, 0, s, _, h => by omega
  | n + 1, m + 1, s, hn, hm => by
    unfold moreS
    split
    · rename_i h44
      have := trim_lt h44
      cases hfs : f (Lib.trimPrefix s [44]) with
      | none => rfl
      | some tr =>
        obtain ⟨t, r⟩ := tr
        have := hf _ _ _ hfs
        simp only [Option.bind_some]
        rw [moreS_fuel hf n m r (by omega) (by omega)]
    · rfl
theorem listS_len {f : List UInt8 → Option (T × List UInt8)} (hf : ∀ s t r, f s = some (t, r) → r.length < s.length) {s : List UInt8} {ts : List T} {r : List UInt8} (h : listS f s = some (ts, r)) : r.length < s.length := by
  unfold listS at h
  split at h
  · rename_i h40
    have := trim_lt h40
    split at h
    · rename_i h41
      injection h with h
      injection h with e1 e2
      subst e1 e2
      have := trim_lt h41
      omega
    · obtain ⟨⟨t, r'⟩, h1, h⟩ := Option.bind_eq_some_iff.1 h
      obtain ⟨⟨ts', r2⟩, h2, he⟩ := Option.map_eq_some_iff.1 h
      injection he with e1 e2
      subst e1 e2
      have := hf _ _ _ h1
      have := moreS_len hf _ _ _ _ h2
      simp only at *
      omega
  · cases h
theorem rdS_len : ∀ (d : Nat) (s : List UInt8) (t : T) (r : List UInt8), rdS d s = some (t, r) → r.length < s.length
  | 0, s, t, r, h => by cases h
  | d + 1, s, t, r, h => by
    unfold rdS at h
    split at h
    · cases h
    · rename_i hk
      obtain ⟨⟨vs, r1⟩, h1, h⟩ := Option.bind_eq_some_iff.1 h
      obtain ⟨⟨ts, r2⟩, h2, he⟩ := Option.map_eq_some_iff.1 h
      injection he with e1 e2
      subst e1 e2
      have h3 := (numsS_len _ _ _ _ h1).2.1
      have h4 := (kindS_le s).2.2 hk
      unfold partsS at h2
      split at h2
      · obtain ⟨⟨t', r'⟩, h5, he⟩ := Option.map_eq_some_iff.1 h2
        injection he with e1 e2
        subst e2
        have := rdS_len d _ _ _ h5
        simp only at *
        omega
      · split at h2
        · have := listS_len (rdS_len d) h2
          simp only at *
          omega
        · injection h2 with h2
          injection h2 with e1 e2
          subst e2
          simp only at *
          omega
end Go.Proofs.YtdmoknnnlfkfoaaGreatDoor

namespace Go.Proofs.YtdmoknnnlfkfoaaGreatDoor
open Go Go.RowKit
set_option linter.unusedVariables false
def put4 (w : World) (g : Nat) (a b c d : Value) : World := (((w.setCell ⟨g, 0, none⟩ a).setCell ⟨g, 1, none⟩ b).setCell ⟨g, 2, none⟩ c).setCell ⟨g, 3, none⟩ d
theorem put4_row {w : World} {g : Nat} {t : TypeId} {x0 x1 x2 x3 : Value} (h : w.heap[g]? = some (.cells #[x0, x1, x2, x3] t (0, 0))) (a b c d : Value) : (put4 w g a b c d).heap[g]? = some (.cells #[a, b, c, d] t (0, 0)) := by
  have h1 := Joins.block_setCell (i := 0) h a
  have h2 := Joins.block_setCell (i := 1) h1 b
  have h3 := Joins.block_setCell (i := 2) h2 c
  have h4 := Joins.block_setCell (i := 3) h3 d
  exact h4
theorem put4_else (w : World) {g k : Nat} (h : k ≠ g) (a b c d : Value) : (put4 w g a b c d).heap[k]? = w.heap[k]? := by
  unfold put4
  rw [Below.heap_setCell _ _ _ _ h, Below.heap_setCell _ _ _ _ h, Below.heap_setCell _ _ _ _ h, Below.heap_setCell _ _ _ _ h]
theorem put4_size (w : World) (g : Nat) (a b c d : Value) : (put4 w g a b c d).heap.size = w.heap.size := by simp [put4, World.setCell]
theorem put4_below {w0 w : World} {B g : Nat} (h : Below B w0 w) (hg : B ≤ g) (a b c d : Value) : Below B w0 (put4 w g a b c d) :=
  (((h.setCell (p := ⟨g, 0, none⟩) hg a).setCell (p := ⟨g, 1, none⟩) hg b).setCell (p := ⟨g, 2, none⟩) hg c).setCell (p := ⟨g, 3, none⟩) hg d
end Go.Proofs.YtdmoknnnlfkfoaaGreatDoor
