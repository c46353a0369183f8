/-
  Layer 4: what the library reads of the listed variables; strconv.FormatUint at base 10.
  Layer 4: strconv.ParseUint(s, 10, 64); the program's reader: number, mark, must.
  Layer 4: the program's reader.kind.
  Layer 4: a tree's text, plainly.
  Layer 4: rows of strings of the call's own; strings.Join of one.
-/
import Derived.Test.YtiiiklenhmhccaaGreatDoorZpTkd
import Derived.Test.YtiiiklenhmhccaaGreatDoorZpShf
import Derived.Lib.AppendIntMem
import Derived.BigCall
import Derived.BigGuard
import Derived.Test.YtiiiklenhmhccaaGreatDoorZpTsm
import Derived.Test.YtiiiklenhmhccaaGreatDoorZpTrw
import Derived.Shelf.Strings.SlTrimAscii
import Derived.Lib.SmallJoins
import Derived.Test.YtiiiklenhmhccaaGreatDoorZpTrs
import Derived.Lib.Join
import Derived.Lib.ItoaLen

namespace Go.Proofs.YtiiiklenhmhccaaGreatDoor
open Go Go.RowKit Go.Sort Go.Lib
set_option linter.unusedVariables false
def Env (B : Nat) (w : World) : Prop := ∀ w' : World, (∀ g, g < B → w'.heap[g]? = w.heap[g]?) →
  Lib.TabIs Tryz.prog w' "internal/strconv.uint64pow10" .u64 Lib.pow10Tab ∧ (∃ tp p, w'.var? Tryz.prog "strconv.ErrSyntax" = some #[.iface tp p]) ∧ (∃ tp p, w'.var? Tryz.prog "strconv.ErrRange" = some #[.iface tp p])
theorem Env.keep {B : Nat} {w w' : World} (h : Env B w) (hk : ∀ g, g < B → w'.heap[g]? = w.heap[g]?) : Env B w' := fun w2 h2 => h w2 fun g hg => (h2 g hg).trans (hk g hg)
theorem Env.under {B B' : Nat} {w w' : World} (h : Env B w) (hb : Below B' w w') (hB : B ≤ B') : Env B w' := h.keep fun g hg => hb.block g (by omega)
set_option maxHeartbeats 3200000 in
set_option maxRecDepth 100000 in
theorem fmt_in (u : Nat) (hu64 : u < 18446744073709551616) (w : World) (htab : Lib.TabIs Tryz.prog w "internal/strconv.uint64pow10" .u64 Lib.pow10Tab) :
    Calls Tryz.prog 157 #[.int .u64 u, .int .i64 10] w fun e w' => e = .returned (.string ⟨(Lib.decDigits u).toArray⟩) ∧ Below w.heap.size w w' := by
  by_cases hs : u < 100
  · have hwr : IntKind.i64.wrap (u : Int) = (u : Int) := by rw [IntKind.wrap_i64]; omega
    have SM := Tryz.internal_strconv_small u hs w
    go_enter Tryz.func157, Tryz.ntmps157
    go_wp2_with (go_at_call 182; refine SM.mono ?_; rintro e w' ⟨rfl, rfl⟩)
    go_ret
    exact ⟨rfl, Below.refl _ _⟩
  · have hu1 : 1 ≤ u := by omega
    have hnd20 : Lib.nDigits u ≤ 20 := by have := Lib.numDigits_eq u hu1 hu64; split at this <;> omega
    have hb3 : Lib.nDigits u ≤ 24 := by omega
    have hal : Tryz.prog.arrayLen 226 = 24 := by kernel_rfl
    have hsl : ∀ W, (Instr.sliceAt 226 (.pointer (some ⟨w.heap.size, 0, none⟩)) none (some (.int .i64 (Lib.nDigits u : Int))) none).run Tryz.prog W = .ok (.slice (some ⟨w.heap.size, 0, none⟩) (Lib.nDigits u) 24) W := fun W => by
      rw [run_sliceAt_array_h W 226 ⟨w.heap.size, 0, none⟩ (by simp [Program.arrayLen, Program.elem, Tryz.underlying226]) .i64 (Lib.nDigits u : Int) (by omega) (by rw [hal]; omega)]
      go_simp
    have hH0 := Lib.holds_zero0 w 226 (Lib.nDigits u) (by omega)
    have hfmt := Tryz.internal_strconv_formatBase10 w.heap.size 0 24 u (Array.replicate (Lib.nDigits u) 0) (w.alloc (.cells Lib.zeros24 226)) hH0 (by rw [Array.size_replicate]; exact Lib.lt_pow_nDigits u) hu64 (by rw [Array.size_replicate]; omega)
    rw [Array.size_replicate] at hfmt
    have HH0 := Lib.hid hH0
    have ND := Tryz.internal_strconv_numDigits u hu1 hu64 (w.alloc (.cells Lib.zeros24 226)) (Lib.tabIs_alloc htab _)
    clear hH0 hal
    go_enter Tryz.func157, Tryz.ntmps157
    go_wp2_with (go_at_call 183; refine ND.mono ?_; rintro e w' ⟨rfl, rfl⟩)
    refine hfmt.mono ?_
    rintro e w' ⟨rfl, k, v', dk, rfl, hF⟩
    have hcv : (convert 46 9 (.slice (some ⟨w.heap.size, 0, none⟩) (Lib.nDigits u) 24)).run Tryz.prog ((putRow (fun (b : UInt8) => Value.int .u8 (b.toNat : Int)) (w.alloc (.cells Lib.zeros24 226)) w.heap.size 0 dk).drewN k) = .ok (.string ⟨(Lib.decDigits u).toArray⟩) ((putRow (fun (b : UInt8) => Value.int .u8 (b.toNat : Int)) (w.alloc (.cells Lib.zeros24 226)) w.heap.size 0 dk).drewN k) := by
      have h := run_convert_bytes_back (P := Tryz.prog) ((putRow (fun (b : UInt8) => Value.int .u8 (b.toNat : Int)) (w.alloc (.cells Lib.zeros24 226)) w.heap.size 0 dk).drewN k) 46 9 5 ⟨w.heap.size, 0, none⟩ 24 (Lib.decDigits u) Tryz.underlying46 Tryz.underlying5 Tryz.underlying9 (fun j hj => by
        rw [Lib.row_is_numeral hF j hj, Lib.add_plain, World.cell?_drewN]
        exact cell?_putRow (fun (b : UInt8) => Value.int .u8 (b.toNat : Int)) _ w.heap.size 0 _ dk HH0.out (by rw [hF.size, Array.size_replicate]) j (by rw [hF.size]; rw [Lib.decDigits_length] at hj; exact hj))
      rw [Lib.decDigits_length] at h
      exact h
    have HF : Hid (Below w.heap.size w ((putRow (fun (b : UInt8) => Value.int .u8 (b.toNat : Int)) (w.alloc (.cells Lib.zeros24 226)) w.heap.size 0 dk).drewN k)) := by
      obtain ⟨os, eo⟩ := Lib.fin_at w (.cells Lib.zeros24 226) dk k 0
      rw [eo]
      exact Lib.below_grow w.heap.size w (Nat.le_refl _) k os
    clear hF
    go_wp2
    go_ret
    exact ⟨rfl, HF.out⟩
theorem fmt_any (B u : Nat) (hu64 : u < 18446744073709551616) (w : World) (hE : Env B w) :
    Calls Tryz.prog 91 #[.int .u64 u, .int .i64 10] w fun e w' => e = .returned (.string ⟨(Lib.decDigits u).toArray⟩) ∧ Below w.heap.size w w' := by
  have HI := fmt_in u hu64 w (hE w fun _ _ => rfl).1
  clear hE
  go_enter Tryz.func91, Tryz.ntmps91
  go_wp2_with (go_at_call 157; refine HI.mono ?_; rintro e w' ⟨rfl, hb⟩)
  go_ret
  exact ⟨rfl, hb⟩
end Go.Proofs.YtiiiklenhmhccaaGreatDoor

namespace Go.Proofs.YtiiiklenhmhccaaGreatDoor
open Go Go.RowKit
set_option linter.unusedVariables false
theorem parse_any (B : Nat) (s : List UInt8) (hl : s.length ≤ 1000000) (w : World) (hE : Env B w) : Calls Tryz.prog 170 #[.string ⟨s.toArray⟩, .int .i64 10, .int .i64 64] w fun e w' => Below w.heap.size w w' ∧
    ((∃ u : Nat, Lib.parseUintB 64 s = .ok u ∧ e = .returned (.tuple #[.int .u64 u, .nilIface])) ∨ ((∀ u, Lib.parseUintB 64 s ≠ .ok u) ∧ ∃ (x : Int) (N : Nat), e = .returned (.tuple #[.int .u64 x, .iface 261 (.pointer (some ⟨N, 0, none⟩))]))) := by
  obtain ⟨-, ⟨t1, p1, hv1⟩, ⟨t2, p2, hv2⟩⟩ := hE w fun _ _ => rfl
  have hsz : (⟨s.toArray⟩ : ByteArray).size = s.length := by simp [ByteArray.size]
  have hd : (⟨s.toArray⟩ : ByteArray).data.toList = s := by simp
  cases h : Lib.parseUintB 64 s with
  | ok u =>
    refine (Tryz.strconv_ParseUint_10_at64_ok ⟨s.toArray⟩ (by omega) u (by rw [hd]; exact h) w).mono fun e w' ⟨he, hw⟩ => ⟨?_, .inl ⟨u, rfl, he⟩⟩
    rcases hw with rfl | rfl
    · exact Below.refl _ _
    · exact Joins.below_bytesWorld _ _ _ _ (Nat.le_refl _)
  | range => exact (Tryz.strconv_ParseUint_10_at64_range_var ⟨s.toArray⟩ (by omega) (by rw [hd]; exact h) t2 p2 w hv2).mono fun e w' ⟨N, he, _, _, hb⟩ => ⟨hb, .inr ⟨(fun u e => by cases e), _, N, he⟩⟩
  | _ => exact (Tryz.strconv_ParseUint_10_at64_syntax_var ⟨s.toArray⟩ (by omega) (by rw [hd]; exact h) t1 p1 w hv1).mono fun e w' ⟨N, he, _, _, hb⟩ => ⟨hb, .inr ⟨(fun u e => by cases e), _, N, he⟩⟩
def digsL : List UInt8 := [48, 49, 50, 51, 52, 53, 54, 55, 56, 57]
theorem trim_any (s : List UInt8) (w : World) : Calls Tryz.prog 248 #[.string ⟨s.toArray⟩, .string ⟨#[48, 49, 50, 51, 52, 53, 54, 55, 56, 57]⟩] w fun e w' => e = .returned (.string ⟨(Lib.trimLeftS s digsL).toArray⟩) ∧ Below w.heap.size w w' := by
  have := Any.strings_TrimLeft_laid Tryz.lays161 (by kernel_rfl) ⟨s.toArray⟩ ⟨#[48, 49, 50, 51, 52, 53, 54, 55, 56, 57]⟩ w (by decide) (ascii_of_all (by decide))
  have h2 : Calls Tryz.prog (Tryz.lays161_ren.f 161) #[.string ⟨s.toArray⟩, .string ⟨#[48, 49, 50, 51, 52, 53, 54, 55, 56, 57]⟩] w fun e w' => e = .returned (.string ⟨(Lib.trimLeftS s digsL).toArray⟩) ∧ Below w.heap.size w w' := by simpa [digsL] using this
  exact h2
def restS (s : List UInt8) : List UInt8 := Lib.trimLeftS s digsL
def digS (s : List UInt8) : List UInt8 := s.take (s.length - (restS s).length)
def numS (s : List UInt8) : Option (Nat × List UInt8) :=
  match Lib.parseUintB 64 (digS s) with
  | .ok v => if Lib.decDigits v = digS s then some (v, restS s) else none
  | _ => none
theorem rest_len (s : List UInt8) : (restS s).length ≤ s.length := by
  unfold restS Lib.trimLeftS
  exact (List.dropWhile_suffix _).length_le
theorem numS_lt {s r : List UInt8} {v : Nat} (h : numS s = some (v, r)) : v < 18446744073709551616 ∧ r.length ≤ s.length := by
  unfold numS at h
  split at h
  · rename_i u hu
    split at h
    · injection h with h
      injection h with h1 h2
      subst h1 h2
      refine ⟨?_, rest_len s⟩
      have := Lib.parseUintB_le hu
      omega
    · cases h
  · cases h
def RdrC (m : Int) (s : List UInt8) (bad : Bool) : Obj := .cells #[.int .i64 m, .string ⟨s.toArray⟩, .bool bad] 248 (0, 0)
def NumEnd4 (m : Int) (s : List UInt8) (bad : Bool) (g : Nat) (w : World) (e : Ending) (w' : World) : Prop :=
  w.grownBy w' (some g) ∧ ((∃ v r, numS s = some (v, r) ∧ e = .returned (.int .u64 (v : Int)) ∧ w'.heap[g]? = some (RdrC m r bad)) ∨ (numS s = none ∧ e = .returned (.int .u64 0) ∧ w'.heap[g]? = some (RdrC m s true)))
theorem numS_ok {s : List UInt8} {u : Nat} (h : Lib.parseUintB 64 (digS s) = .ok u) : numS s = if Lib.decDigits u = digS s then some (u, restS s) else none := by
  unfold numS; rw [h]
theorem numS_bad {s : List UInt8} (h : ∀ u, Lib.parseUintB 64 (digS s) ≠ .ok u) : numS s = none := by
  unfold numS
  split
  · rename_i u hu; exact absurd hu (h u)
  · rfl
set_option maxRecDepth 100000 in
set_option maxHeartbeats 1600000 in
theorem pnumber_any (m : Int) (s : List UInt8) (bad : Bool) (B g : Nat) (w : World) (hg : w.heap[g]? = some (RdrC m s bad)) (hE : Env B w) (hB : B ≤ g) (hl : s.length ≤ 1000000) :
    Calls Tryz.prog 236 #[.pointer (some ⟨g, 0, none⟩)] w (NumEnd4 m s bad g w) := by
  have hgl := (Array.getElem?_eq_some_iff.1 hg).1
  have TR := trim_any s w
  have hsl : ∀ W, (Instr.slice 9 (.string ⟨s.toArray⟩) none (some (.int .i64 ((s.length : Int) - ((restS s).length : Int)))) none).run Tryz.prog W = .ok (.string ⟨(digS s).toArray⟩) W := fun W => by
    have := rest_len s
    rw [run_slice_string_h W 9 ⟨s.toArray⟩ Tryz.underlying9 .i64 ((s.length : Int) - ((restS s).length : Int)) (by omega) (by simp [ByteArray.size]; omega)]
    congr 2
    apply ByteArray.ext
    rw [show ((s.length : Int) - ((restS s).length : Int)).toNat = s.length - (restS s).length by omega]
    simp [ByteArray.data_extract, digS]
  have hdl : (digS s).length ≤ 1000000 := by unfold digS; rw [List.length_take]; omega
  have HPA : Hid (∀ W, Below w.heap.size w W → Calls Tryz.prog 170 #[.string ⟨(digS s).toArray⟩, .int .i64 10, .int .i64 64] W fun e w' => Below W.heap.size W w' ∧
    ((∃ u : Nat, Lib.parseUintB 64 (digS s) = .ok u ∧ e = .returned (.tuple #[.int .u64 u, .nilIface])) ∨ ((∀ u, Lib.parseUintB 64 (digS s) ≠ .ok u) ∧ ∃ (x : Int) (N : Nat), e = .returned (.tuple #[.int .u64 x, .iface 261 (.pointer (some ⟨N, 0, none⟩))])))) := fun W h => parse_any B (digS s) hdl W (hE.under h (by omega))
  have HFM : Hid (∀ (W : World) (u : Nat), Below w.heap.size w W → u < 18446744073709551616 → Calls Tryz.prog 91 #[.int .u64 u, .int .i64 10] W fun e w' => e = .returned (.string ⟨(Lib.decDigits u).toArray⟩) ∧ Below W.heap.size W w') := fun W u h hu => fmt_any B u hu W (hE.under h (by omega))
  have HOK : Hid (∀ u, Lib.parseUintB 64 (digS s) = .ok u → numS s = if Lib.decDigits u = digS s then some (u, restS s) else none) := fun u h => numS_ok h
  have HBD : Hid ((∀ u, Lib.parseUintB 64 (digS s) ≠ .ok u) → numS s = none) := fun h => numS_bad h
  have HLT : Hid (∀ u, Lib.parseUintB 64 (digS s) = .ok u → u < 18446744073709551616) := fun u h => by have := Lib.parseUintB_le h; omega
  have hrl := rest_len s
  have TR : Calls Tryz.prog 248 #[.string ⟨s.toArray⟩, .string ⟨#[48, 49, 50, 51, 52, 53, 54, 55, 56, 57]⟩] w fun e w' => e = .returned (.string ⟨(restS s).toArray⟩) ∧ Below w.heap.size w w' := TR
  have hwr : IntKind.i64.wrap ((s.length : Int) - ((restS s).length : Int)) = (s.length : Int) - ((restS s).length : Int) := by rw [IntKind.wrap_i64]; omega
  have c1 := cell_of_row w _ 1 _ _ _ hg
  simp at c1
  have HN : Hid (NumEnd4 m s bad g w = fun e w' => w.grownBy w' (some g) ∧ ((∃ v r, numS s = some (v, r) ∧ e = .returned (.int .u64 (v : Int)) ∧ w'.heap[g]? = some (RdrC m r bad)) ∨ (numS s = none ∧ e = .returned (.int .u64 0) ∧ w'.heap[g]? = some (RdrC m s true)))) := rfl
  have HNE : Hid (∀ (w' : World) (e : Ending), w.grownBy w' (some g) → ((∃ v r, numS s = some (v, r) ∧ e = .returned (.int .u64 (v : Int)) ∧ w'.heap[g]? = some (RdrC m r bad)) ∨ (numS s = none ∧ e = .returned (.int .u64 0) ∧ w'.heap[g]? = some (RdrC m s true))) → NumEnd4 m s bad g w e w') := fun w' e h1 h2 => ⟨h1, h2⟩
  clear HN hdl hE
  generalize hrs : restS s = rs at *
  generalize hds : digS s = ds at *
  generalize hnm : numS s = nm at *
  clear hrs hds hnm
  go_enter Tryz.func236, Tryz.ntmps236
  go_wp2_with fail
  refine TR.mono ?_
  rintro e w1 ⟨rfl, hb1⟩
  have hg1 := (hb1.block g hgl).trans hg
  have c11 := cell_of_row w1 _ 1 _ _ _ hg1
  simp at c11
  clear TR c1
  go_wp2_with fail
  go_quiet (fail)
  go_wp2_with fail
  refine (HPA.out _ (by exact below_drew_ hb1)).mono ?_
  rintro e w2 ⟨hb2', hr⟩
  have hb2 : Below w.heap.size w w2 := (below_drew_ hb1 : Below w.heap.size w (w1.drewN nq)).trans (hb2'.mono hb1.size)
  have hg2 := (hb2.block g hgl).trans hg
  rcases hr with ⟨u, hu, rfl⟩ | ⟨hu, x, N, rfl⟩
  · have hF := HFM.out w2 u hb2 (HLT.out u hu)
    have hN2 := HOK.out u hu
    go_wp2_with fail
    refine hF.mono ?_
    rintro e w3 ⟨rfl, hb3⟩
    have hb3w := hb2.trans (hb3.mono hb2.size)
    have hg3 := (hb3w.block g hgl).trans hg
    have c1 := cell_of_row w3 _ 1 _ _ _ hg3
    have c2 := cell_of_row w3 _ 2 _ _ _ hg3
    have z1 := frozen_of_row w3 g 1 _ _ hg3
    have z2 := frozen_of_row w3 g 2 _ _ hg3
    simp at c1 c2
    have hgr := grow_below hb3w (some g)
    have HB1 : Hid ((w3.setCell ⟨g, 1, none⟩ (.string ⟨rs.toArray⟩)).heap[g]? = some (RdrC m rs bad)) := Joins.block_setCell (i := 1) hg3 _
    have HB2 : Hid ((w3.setCell ⟨g, 2, none⟩ (.bool true)).heap[g]? = some (RdrC m s true)) := Joins.block_setCell (i := 2) hg3 _
    generalize hdd : Lib.decDigits u = dd at *
    by_cases hq : dd = ds
    · have hqb : (dd == ds) = true := by simp [hq]
      have HX : Hid (NumEnd4 m s bad g w (.returned (.int .u64 (u : Int))) (w3.setCell ⟨g, 1, none⟩ (.string ⟨rs.toArray⟩))) := HNE.out _ _ (hgr.trans (grow_set w3 g 1 _)) (.inl ⟨u, rs, by rw [hN2, if_pos hq], rfl, HB1.out⟩)
      clear hq hN2 hF
      go_wp2_with fail
      go_ret
      exact HX.out
    · have hqb : (dd == ds) = false := by simp [hq]
      have HX : Hid (NumEnd4 m s bad g w (.returned (.int .u64 0)) (w3.setCell ⟨g, 2, none⟩ (.bool true))) := HNE.out _ _ (hgr.trans (grow_set w3 g 2 _)) (.inr ⟨by rw [hN2, if_neg hq], rfl, HB2.out⟩)
      clear hq hN2 hF
      go_wp2_with fail
      go_ret
      exact HX.out
  · have hN2 := HBD.out hu
    have c1 := cell_of_row w2 _ 1 _ _ _ hg2
    have c2 := cell_of_row w2 _ 2 _ _ _ hg2
    have z1 := frozen_of_row w2 g 1 _ _ hg2
    have z2 := frozen_of_row w2 g 2 _ _ hg2
    simp at c1 c2
    have hgr := grow_below hb2 (some g)
    have HB2 : Hid ((w2.setCell ⟨g, 2, none⟩ (.bool true)).heap[g]? = some (RdrC m s true)) := Joins.block_setCell (i := 2) hg2 _
    have HX : Hid (NumEnd4 m s bad g w (.returned (.int .u64 0)) (w2.setCell ⟨g, 2, none⟩ (.bool true))) := HNE.out _ _ (hgr.trans (grow_set w2 g 2 _)) (.inr ⟨hN2, rfl, HB2.out⟩)
    clear hN2 hu
    go_wp2_with fail
    go_ret
    exact HX.out
def MarkEnd (m : Int) (s x : List UInt8) (bad : Bool) (g : Nat) (w : World) (e : Ending) (w' : World) : Prop :=
  e = .returned (.bool (Lib.hasPrefix s x)) ∧ w.grownBy w' (some g) ∧ w'.heap[g]? = some (RdrC m (Lib.trimPrefix s x) bad)
set_option maxRecDepth 100000 in
theorem mark_any (m : Int) (s x : List UInt8) (bad : Bool) (g : Nat) (w : World) (hg : w.heap[g]? = some (RdrC m s bad)) :
    Calls Tryz.prog 247 #[.pointer (some ⟨g, 0, none⟩), .string ⟨x.toArray⟩] w (MarkEnd m s x bad g w) := by
  have CP : Calls Tryz.prog 250 #[.string ⟨s.toArray⟩, .string ⟨x.toArray⟩] w fun e w' => e = .returned (.tuple #[.string ⟨(Lib.trimPrefix s x).toArray⟩, .bool (Lib.hasPrefix s x)]) ∧ w' = w := by
    have := Tryz.strings_CutPrefix ⟨s.toArray⟩ ⟨x.toArray⟩ w
    simpa using this
  have c1 := cell_of_row w _ 1 _ _ _ hg
  have z1 := frozen_of_row w g 1 _ _ hg
  simp at c1
  have HB1 : Hid ((w.setCell ⟨g, 1, none⟩ (.string ⟨(Lib.trimPrefix s x).toArray⟩)).heap[g]? = some (RdrC m (Lib.trimPrefix s x) bad)) := Joins.block_setCell (i := 1) hg _
  have HX : Hid (MarkEnd m s x bad g w (.returned (.bool (Lib.hasPrefix s x))) (w.setCell ⟨g, 1, none⟩ (.string ⟨(Lib.trimPrefix s x).toArray⟩))) := ⟨rfl, grow_set w g 1 _, HB1.out⟩
  clear HB1 hg
  generalize Lib.trimPrefix s x = tp at *
  generalize Lib.hasPrefix s x = hp at *
  go_enter Tryz.func247, Tryz.ntmps247
  go_wp2_with (go_at_call 250; refine CP.mono ?_; rintro e w' ⟨rfl, rfl⟩)
  go_ret
  exact HX.out
def MustEnd (m : Int) (s x : List UInt8) (bad : Bool) (g : Nat) (w : World) (e : Ending) (w' : World) : Prop :=
  e = .returned (.tuple #[]) ∧ w.grownBy w' (some g) ∧ w'.heap[g]? = some (RdrC m (Lib.trimPrefix s x) (bad || !Lib.hasPrefix s x))
set_option maxRecDepth 100000 in
theorem must_any (m : Int) (s x : List UInt8) (bad : Bool) (g : Nat) (w : World) (hg : w.heap[g]? = some (RdrC m s bad)) :
    Calls Tryz.prog 235 #[.pointer (some ⟨g, 0, none⟩), .string ⟨x.toArray⟩] w (MustEnd m s x bad g w) := by
  have MK := mark_any m s x bad g w hg
  have HM : Hid (∀ w', w.grownBy w' (some g) → w'.heap[g]? = some (RdrC m (Lib.trimPrefix s x) (bad || !Lib.hasPrefix s x)) → MustEnd m s x bad g w (.returned (.tuple #[])) w') := fun w' h1 h2 => ⟨rfl, h1, h2⟩
  go_enter Tryz.func235, Tryz.ntmps235
  go_wp2_with fail
  refine MK.mono ?_
  rintro e w1 ⟨rfl, hgr, hg1⟩
  clear MK
  cases hp : Lib.hasPrefix s x with
  | true =>
    have HX := Lib_hid (HM.out w1 hgr (by rw [hp]; simpa using hg1))
    clear hg1
    go_wp2_with fail
    go_end0
    exact HX.out
  | false =>
    have z2 := frozen_of_row w1 g 2 _ _ hg1
    have c2 := cell_of_row w1 _ 2 _ _ _ hg1
    simp at c2
    have HB2 : Hid ((w1.setCell ⟨g, 2, none⟩ (.bool true)).heap[g]? = some (RdrC m (Lib.trimPrefix s x) true)) := Joins.block_setCell (i := 2) hg1 _
    have HX : Hid (MustEnd m s x bad g w (.returned (.tuple #[])) (w1.setCell ⟨g, 2, none⟩ (.bool true))) := HM.out _ (hgr.trans (grow_set w1 g 2 _)) (by rw [hp]; simpa using HB2.out)
    clear hg1
    go_wp2_with fail
    go_end0
    exact HX.out
end Go.Proofs.YtiiiklenhmhccaaGreatDoor

namespace Go.Proofs.YtiiiklenhmhccaaGreatDoor
open Go Go.RowKit
set_option linter.unusedVariables false
def wordL (k : Nat) : List UInt8 := (wordA k).toList
def kindS (s : List UInt8) : Nat × List UInt8 :=
  match [1, 2, 3, 4, 5, 6, 7].find? (fun k => Lib.hasPrefix s (wordL k)) with
  | some k => (k, Lib.trimPrefix s (wordL k))
  | none => (0, s)
theorem kindS_at {s : List UInt8} {j : Nat} (h1 : 1 ≤ j) (h7 : j ≤ 7) (hn : ∀ i, 1 ≤ i → i < j → Lib.hasPrefix s (wordL i) = false) (hy : Lib.hasPrefix s (wordL j) = true) : kindS s = (j, Lib.trimPrefix s (wordL j)) := by
  have : j = 1 ∨ j = 2 ∨ j = 3 ∨ j = 4 ∨ j = 5 ∨ j = 6 ∨ j = 7 := by omega
  unfold kindS
  rcases this with rfl | rfl | rfl | rfl | rfl | rfl | rfl <;> simp_all
theorem kindS_none {s : List UInt8} (hn : ∀ i, 1 ≤ i → i < 8 → Lib.hasPrefix s (wordL i) = false) : kindS s = (0, s) := by
  unfold kindS
  rw [List.find?_eq_none.2 (by
    intro k hk
    simp only [List.mem_cons, List.not_mem_nil, or_false] at hk
    rw [hn k (by omega) (by omega)]; simp)]
theorem kindS_le (s : List UInt8) : (kindS s).1 ≤ 7 ∧ (kindS s).2.length ≤ s.length ∧ ((kindS s).1 ≠ 0 → (kindS s).2.length < s.length) := by
  unfold kindS
  cases h : [1, 2, 3, 4, 5, 6, 7].find? (fun k => Lib.hasPrefix s (wordL k)) with
  | none => simp
  | some k =>
    have hk := List.mem_of_find?_eq_some h
    have hp : Lib.hasPrefix s (wordL k) = true := by simpa using List.find?_some h
    simp only [List.mem_cons, List.not_mem_nil, or_false] at hk
    have hl : Lib.trimPrefix s (wordL k) = s.drop (wordL k).length := by unfold Lib.trimPrefix; rw [if_pos hp]
    have hw : 1 ≤ (wordL k).length ∧ (wordL k).length ≤ s.length := by
      refine ⟨by rcases hk with rfl | rfl | rfl | rfl | rfl | rfl | rfl <;> decide, ?_⟩
      unfold Lib.hasPrefix at hp
      exact (List.isPrefixOf_iff_prefix.1 hp).length_le
    simp only
    rw [hl, List.length_drop]
    omega
theorem trim_no {s x : List UInt8} (h : Lib.hasPrefix s x = false) : Lib.trimPrefix s x = s := by unfold Lib.trimPrefix; rw [h]; rfl
def KindEnd4 (m : Int) (s : List UInt8) (bad : Bool) (g : Nat) (w : World) (e : Ending) (w' : World) : Prop :=
  e = .returned (.int .i64 ((kindS s).1 : Nat)) ∧ w.grownBy w' (some g) ∧ w'.heap[g]? = some (RdrC m (kindS s).2 bad)
set_option maxRecDepth 100000 in
set_option maxHeartbeats 1600000 in
theorem pkind_any (m : Int) (s : List UInt8) (bad : Bool) (g : Nat) (w : World) (hg : w.heap[g]? = some (RdrC m s bad)) :
    Calls Tryz.prog 234 #[.pointer (some ⟨g, 0, none⟩)] w (KindEnd4 m s bad g w) := by
  have hgl := (Array.getElem?_eq_some_iff.1 hg).1
  have KD := kinds_any w
  have HX : Hid (∀ (j : Nat), 1 ≤ j → j ≤ 7 → ∀ wx, (Instr.index 223 (.agg kindsA) (.int .i64 (j : Int))).run Tryz.prog wx = .ok (.agg #[.string ⟨(wordL j).toArray⟩, .int .i64 (partN j : Nat), .func (.func (numF j)) #[] #[], .func (.func (fitF j)) #[] #[], .func (.func (askF j)) #[] #[]]) wx) := by
    intro j h1 h7
    have : j = 1 ∨ j = 2 ∨ j = 3 ∨ j = 4 ∨ j = 5 ∨ j = 6 ∨ j = 7 := by omega
    rcases this with rfl | rfl | rfl | rfl | rfl | rfl | rfl <;> exact fun wx => by kernel_rfl
  have HX0 : Hid (∀ wx, (Instr.index 223 (.agg kindsA) (.int .i64 0)).run Tryz.prog wx = .ok (.agg #[.string ⟨#[]⟩, .int .i64 0, .nilFunc, .nilFunc, .nilFunc]) wx) := fun wx => by kernel_rfl
  have HW : Hid (∀ j, 1 ≤ j → j ≤ 7 → (wordL j == []) = false) := by
    intro j h1 h7
    have : j = 1 ∨ j = 2 ∨ j = 3 ∨ j = 4 ∨ j = 5 ∨ j = 6 ∨ j = 7 := by omega
    rcases this with rfl | rfl | rfl | rfl | rfl | rfl | rfl <;> decide
  generalize kindsA = ka at *
  go_enter Tryz.func234, Tryz.ntmps234
  go_wp2_with fail
  refine KD.mono ?_
  rintro e w1 ⟨rfl, hb1⟩
  have hg1 := (hb1.block g hgl).trans hg
  have hgr1 := grow_below hb1 (some g)
  clear KD hb1
  go_wp2
  go_loopw [6] (fun z W => ∃ j : Nat, z = .int .i64 j ∧ j ≤ 8 ∧ Hid (∀ i, 1 ≤ i → i < j → Lib.hasPrefix s (wordL i) = false) ∧ W.heap[g]? = some (RdrC m s bad) ∧ w.grownBy W (some g)) (fun z _ => 8 - (intOf z).toNat)
  case atStart => exact ⟨0, rfl, by omega, Lib_hid (fun i h1 h2 => by omega), hg1, hgr1⟩
  case round =>
    clear hg1 hgr1
    obtain ⟨j, rfl, hj, hno, hgW, hgr⟩ := hrel
    rename World => W
    by_cases h8 : j < 8
    · by_cases h0 : j = 0
      · subst h0
        have hx := HX0.out
        have hnew := below_new W (.cells #[.string ⟨#[]⟩, .int .i64 0, .nilFunc, .nilFunc, .nilFunc] 195)
        have hg2 := (hnew.block g (Array.getElem?_eq_some_iff.1 hgW).1).trans hgW
        have hgr2 := hgr.trans (grow_below hnew (some g))
        clear hgW hgr hnew
        go_wp2
        go_roundw
        case rel => exact ⟨1, by go_num, by omega, Lib_hid (fun i h1 h2 => by omega), hg2, hgr2⟩
        case measure => simp [intOf]
      · have hx := HX.out j (by omega) (by omega)
        have hw := HW.out j (by omega) (by omega)
        have hwb : wordL j ≠ [] := by intro e; rw [e] at hw; simp at hw
        have hnew := below_new W (.cells #[.string ⟨(wordL j).toArray⟩, .int .i64 (partN j : Nat), .func (.func (numF j)) #[] #[], .func (.func (fitF j)) #[] #[], .func (.func (askF j)) #[] #[]] 195)
        have hg2 := (hnew.block g (Array.getElem?_eq_some_iff.1 hgW).1).trans hgW
        have hgr2 := hgr.trans (grow_below hnew (some g))
        have MK := mark_any m s (wordL j) bad g _ hg2
        have HHIT : Hid (Lib.hasPrefix s (wordL j) = true → kindS s = (j, Lib.trimPrefix s (wordL j))) := fun h => kindS_at (by omega) (by omega) hno.out h
        have HMISS : Hid (Lib.hasPrefix s (wordL j) = false → ∀ i, 1 ≤ i → i < j + 1 → Lib.hasPrefix s (wordL i) = false) := fun h i h1 h2 => by
          rcases Nat.lt_or_ge i j with h3 | h3
          · exact hno.out i h1 h3
          · obtain rfl : i = j := by omega
            exact h
        have HTN : Hid (Lib.hasPrefix s (wordL j) = false → Lib.trimPrefix s (wordL j) = s) := trim_no
        clear hgW hgr hnew hg2
        generalize wordL j = wd at *
        generalize partN j = pn at *
        generalize numF j = f1 at *
        generalize fitF j = f2 at *
        generalize askF j = f3 at *
        go_wp2_with fail
        refine MK.mono ?_
        rintro e w3 ⟨rfl, hgr3, hg3⟩
        have hgr4 := hgr2.trans hgr3
        clear MK hgr2 hgr3
        cases hp : Lib.hasPrefix s wd with
        | true =>
          have HF : Hid (KindEnd4 m s bad g w (.returned (.int .i64 (j : Int))) w3) := by
            have := HHIT.out hp
            refine ⟨by rw [this], hgr4, by rw [this]; exact hg3⟩
          clear hg3 HHIT HMISS HTN
          go_wp2_with fail
          go_ret
          exact HF.out
        | false =>
          have HM := Lib_hid (HMISS.out hp)
          rw [HTN.out hp] at hg3
          clear HHIT HMISS HTN
          go_wp2_with fail
          go_roundw
          case rel => exact ⟨j + 1, by go_num, by omega, HM, hg3, hgr4⟩
          case measure => simp [intOf]; omega
    · obtain rfl : j = 8 := by omega
      have HF : Hid (KindEnd4 m s bad g w (.returned (.int .i64 0)) W) := by
        have := kindS_none hno.out
        refine ⟨by rw [this]; rfl, hgr, by rw [this]; exact hgW⟩
      go_wp2
      go_ret
      exact HF.out
end Go.Proofs.YtiiiklenhmhccaaGreatDoor

namespace Go.Proofs.YtiiiklenhmhccaaGreatDoor
open Go Go.RowKit
set_option linter.unusedVariables false
mutual
def T.tell : T → List UInt8
  | .node k a b ps => wordL k.toNat ++ Lib.join ((numsL k a b).map Lib.decDigits) [61] ++ (if 6 ≤ k then [40] ++ Lib.join (T.tellL ps) [44] ++ [41] else Lib.join (T.tellL ps) [])
def T.tellL : List T → List (List UInt8)
  | [] => []
  | p :: ps => p.tell :: T.tellL ps
end
theorem tellL_append : ∀ (xs ys : List T), T.tellL (xs ++ ys) = T.tellL xs ++ T.tellL ys
  | [], ys => by simp [T.tellL]
  | x :: xs, ys => by rw [List.cons_append, T.tellL, T.tellL, tellL_append xs ys, List.cons_append]
theorem tellL_length : ∀ xs : List T, (T.tellL xs).length = xs.length
  | [] => by simp [T.tellL]
  | x :: xs => by rw [T.tellL, List.length_cons, List.length_cons, tellL_length xs]
theorem tellL_take {ps : List V} {i : Nat} {p : V} (h : ps[i]? = some p) : T.tellL (V.absL (ps.take (i + 1))) = T.tellL (V.absL (ps.take i)) ++ [p.abs.tell] := by
  rw [absL_take h, tellL_append]; simp [T.tellL]
theorem join_snoc (xs : List (List UInt8)) (x sep : List UInt8) : Lib.join (xs ++ [x]) sep = Lib.join xs sep ++ (if xs = [] then [] else sep) ++ x := by
  cases xs with
  | nil => simp [Lib.join_one, Lib.join_nil]
  | cons y r =>
    rw [List.cons_append, Lib.join_cons, Lib.join_cons, if_neg (by simp)]
    simp [Lib.joinTail, List.append_assoc]
theorem join_len (xs : List (List UInt8)) (sep : List UInt8) : (Lib.join xs sep).length ≤ Lib.lens xs + sep.length * xs.length := by
  cases xs with
  | nil => simp [Lib.join_nil]
  | cons x r =>
    rw [Lib.join_length, List.length_cons, Nat.mul_succ]
    omega
theorem wordL_len (n : Nat) : (wordL n).length ≤ 3 := by
  unfold wordL wordA
  repeat (first | split | decide)
theorem lens_nums {l : List Nat} (h : ∀ x ∈ l, x < 18446744073709551616) : Lib.lens (l.map Lib.decDigits) ≤ 20 * l.length := by
  induction l with
  | nil => simp [Lib.lens]
  | cons x l ih =>
    have h1 := Lib.nDigits_le20 x (h x (by simp))
    have h2 := ih fun y hy => h y (by simp [hy])
    rw [← Lib.decDigits_length] at h1
    simp only [Lib.lens, List.map_cons, List.sum_cons, List.length_cons] at h2 ⊢
    omega
theorem tellN_len (k : Int) {a b : Nat} (ha : a < 18446744073709551616) (hb : b < 18446744073709551616) : (Lib.join ((numsL k a b).map Lib.decDigits) [61]).length ≤ 42 := by
  have h1 := join_len ((numsL k a b).map Lib.decDigits) [61]
  have h2 := lens_nums (nums_in (k := k) ha hb)
  have h3 := numN_le k
  rw [nums_len] at h2
  rw [List.length_map, nums_len] at h1
  simp at h1
  omega
theorem tells_sum {w : World} {lo hi : Nat} (l : List V) (h : ∀ p ∈ l, p.abs.tell.length + 1 ≤ 50 * p.abs.count) : Lib.lens (T.tellL (V.absL l)) + l.length ≤ 50 * T.countL (V.absL l) := by
  induction l with
  | nil => simp [V.absL, T.tellL, Lib.lens, T.countL]
  | cons p l ih2 =>
    have h1 := h p (by simp)
    have h2 := ih2 fun q hq => h q (by simp [hq])
    simp only [Lib.lens] at h2
    simp only [V.absL, T.tellL, T.countL, Lib.lens, List.map_cons, List.sum_cons, List.length_cons]
    omega
theorem tells_join {l : List V} {sep : List UInt8} (hs : sep.length ≤ 1) (h : Lib.lens (T.tellL (V.absL l)) + l.length ≤ 50 * T.countL (V.absL l)) : (Lib.join (T.tellL (V.absL l)) sep).length ≤ 50 * T.countL (V.absL l) := by
  have h1 := join_len (T.tellL (V.absL l)) sep
  rw [tellL_length, absL_length] at h1
  have h2 := Nat.mul_le_mul_right l.length hs
  omega
theorem tell_len {w : World} {lo hi : Nat} : ∀ v : V, Lies w lo hi v → v.abs.tell.length + 1 ≤ 50 * v.abs.count := by
  refine V.ind fun k a b A c ps ih hL => ?_
  obtain ⟨hlen, hcap', hk, ha, hb⟩ := hL.caps
  rw [V.count_node, V.abs, T.tell]
  have h1 := tells_sum (w := w) (lo := lo) (hi := hi) ps fun p hp => ih p hp (hL.part hp)
  have h2 := tells_join (l := ps) (sep := [44]) (by decide) h1
  have h3 := tells_join (l := ps) (sep := []) (by decide) h1
  have h4 := wordL_len k.toNat
  have h5 := tellN_len k ha hb
  split <;> simp only [List.length_append, List.length_cons, List.length_nil] <;> omega
theorem tells_len {w : World} {lo hi : Nat} {k : Int} {a b c : Nat} {A : Option Addr} {ps : List V} (hL : Lies w lo hi (.node k a b A c ps)) {sep : List UInt8} (hs : sep.length ≤ 1) : (Lib.join (T.tellL (V.absL ps)) sep).length ≤ 50 * T.countL (V.absL ps) :=
  tells_join hs (tells_sum (w := w) (lo := lo) (hi := hi) ps fun p hp => tell_len p (hL.part hp))
end Go.Proofs.YtiiiklenhmhccaaGreatDoor

namespace Go.Proofs.YtiiiklenhmhccaaGreatDoor
open Go Go.RowKit
set_option linter.unusedVariables false
def strs (xs : List (List UInt8)) : List Value := xs.map fun x => .string ⟨x.toArray⟩
theorem strs_length (xs : List (List UInt8)) : (strs xs).length = xs.length := by simp [strs]
theorem strs_append (xs ys : List (List UInt8)) : strs (xs ++ ys) = strs xs ++ strs ys := by simp [strs]
theorem strs_one (xs : List (List UInt8)) : ∀ u ∈ strs xs, u.oneCell' = true := by
  intro u hu
  obtain ⟨x, _, rfl⟩ := List.mem_map.1 hu
  rfl
theorem new_str (w : World) (E : TypeId) (x : List UInt8) : Rd (w.alloc (.cells #[.string ⟨x.toArray⟩] E)) (w.heap.size + 1) 1 (some ⟨w.heap.size, 0, none⟩) 1 (strs [x]) := by
  refine ⟨rfl, fun _ => ⟨_, rfl, by simp, fun j u hu => ?_⟩⟩
  have hr := heap_alloc_new w (.cells #[.string ⟨x.toArray⟩] E)
  have e : (⟨w.heap.size, 0, none⟩ : Addr).add j = ⟨w.heap.size, j, none⟩ := by unfold Addr.add; split <;> simp_all
  rw [e, cell_of_row _ _ j _ _ _ hr]
  have hv : strs [x] = [.string ⟨x.toArray⟩] := rfl
  rw [hv] at hu
  rw [← hu]
  simp
theorem join_any (b n c : Nat) (E : TypeId) (A : Option Addr) (xs : List (List UInt8)) (sep : List UInt8) (w : World) (h : w.ownsRow b E 1 (.slice A n c) n (strs xs)) (hx : n ≤ 1000000) (hl : (Lib.join xs sep).length ≤ 1000000) :
    Calls Tryz.prog 76 #[.slice A n c, .string ⟨sep.toArray⟩] w fun e w' => e = .returned (.string ⟨(Lib.join xs sep).toArray⟩) ∧ Below w.heap.size w w' := by
  have hn : xs.length = n := by have := h.1; rw [strs_length] at this; omega
  rcases Nat.eq_zero_or_pos n with h0 | h0
  · subst h0
    obtain rfl : xs = [] := List.eq_nil_of_length_eq_zero hn
    exact (Tryz.strings_Join_none A c ⟨sep.toArray⟩ w).mono fun e w' ⟨he, hw⟩ => ⟨he, hw ▸ Below.refl _ _⟩
  · have hcap := (own_cap h).1
    have hlies := (Rd.own h).lies h0
    obtain ⟨g, cap, hv, _, hlt⟩ := h.form h0
    have hA : A = some ⟨g, 0, none⟩ := by injection hv
    subst hA
    obtain ⟨ad, e, hb, hc⟩ := hlies
    injection e with e
    subst e
    have e2 : (xs.map fun x => (⟨x.toArray⟩ : ByteArray)).map (·.data.toList) = xs := by rw [List.map_map]; exact (List.map_congr_left fun x _ => rfl).trans (List.map_id _)
    have J := Tryz.strings_Join g 0 c (xs.map fun x => ⟨x.toArray⟩) ⟨sep.toArray⟩ w (fun j x hx => by
      have h1 := hc j (.string x) (by unfold strs; rw [List.getElem?_map] at hx ⊢; cases h : xs[j]? with
        | none => rw [h] at hx; cases hx
        | some y => rw [h] at hx; injection hx with hx; rw [← hx]; rfl)
      rw [← h1]
      congr 1
      unfold Addr.add
      split <;> simp_all) hlt (by rw [List.length_map]; omega) (by rw [List.length_map]; omega) (by show (Lib.join _ sep).length ≤ _; rw [e2]; omega)
    have J2 : Calls Tryz.prog 76 #[.slice (some ⟨g, 0, none⟩) (xs.map fun x => (⟨x.toArray⟩ : ByteArray)).length c, .string ⟨sep.toArray⟩] w fun e w' => e = .returned (.string ⟨(Lib.join ((xs.map fun x => (⟨x.toArray⟩ : ByteArray)).map (·.data.toList)) sep).toArray⟩) ∧ Below w.heap.size w w' := J
    rw [e2, List.length_map, hn] at J2
    exact J2
end Go.Proofs.YtiiiklenhmhccaaGreatDoor
