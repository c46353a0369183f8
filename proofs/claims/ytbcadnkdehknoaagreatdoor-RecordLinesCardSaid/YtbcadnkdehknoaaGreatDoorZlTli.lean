/-
  Layer 4: what a text is read as, plainly. No program is named here, but the words.
  Layer 4: four cells at a block's head, written. No program is named here.
  Layer 4: docs.Expr: the document's tree of a program's, in new memory.
  Layer 4: the program's reader: how node and list end; the steps between.
-/
import Derived.Test.YtbcadnkdehknoaaGreatDoorTkr
import Derived.Test.YtbcadnkdehknoaaGreatDoorMem
import Derived.Lib.SmallJoins
import Derived.Test.YtbcadnkdehknoaaGreatDoorTrw
import Derived.Test.YtbcadnkdehknoaaGreatDoorTdn
import Derived.Great.BuildSlice
import Derived.Deep.DeepCutAuto
import Derived.Deep.CutBlock
import Derived.Deep.RegionHeld3
import Derived.Deep.RegionLaw

namespace Go.Proofs.YtbcadnkdehknoaaGreatDoor
open Go Go.RowKit
set_option linter.unusedVariables false

/-- The first j numbers of a node, with marks between. -/
def numsS : Nat → List UInt8 → Option (List Nat × List UInt8)
  | 0, s => some ([], s)
  | j + 1, s => (numsS j s).bind fun (vs, r) =>
    if j = 0 then (numS r).map fun (v, r') => (vs ++ [v], r')
    else if Lib.hasPrefix r [61] then (numS (Lib.trimPrefix r [61])).map fun (v, r') => (vs ++ [v], r') else none

section
variable (f : List UInt8 → Option (T × List UInt8))
/-- Behind a part: a mark and a further part, or the bracket. -/
def moreS : Nat → List UInt8 → Option (List T × List UInt8)
  | 0, _ => none
  | n + 1, r => if Lib.hasPrefix r [44] then (f (Lib.trimPrefix r [44])).bind fun (t, r') => (moreS n r').map fun (ts, r2) => (t :: ts, r2)
    else if Lib.hasPrefix r [41] then some ([], Lib.trimPrefix r [41]) else none
/-- A list of parts in brackets. -/
def listS (s : List UInt8) : Option (List T × List UInt8) :=
  if Lib.hasPrefix s [40] then
    if Lib.hasPrefix (Lib.trimPrefix s [40]) [41] then some ([], Lib.trimPrefix (Lib.trimPrefix s [40]) [41])
    else (f (Lib.trimPrefix s [40])).bind fun (t, r') => (moreS f (r'.length + 1) r').map fun (ts, r2) => (t :: ts, r2)
  else none
def partsS (k : Nat) (r : List UInt8) : Option (List T × List UInt8) :=
  if k = 5 then (f r).map fun (t, r') => ([t], r') else if 6 ≤ k then listS f r else some ([], r)
end
/-- The tree that a text begins with, of at most so many levels, and the rest. -/
def rdS : Nat → List UInt8 → Option (T × List UInt8)
  | 0, _ => none
  | d + 1, s => if (kindS s).1 = 0 then none else
    (numsS (numN (kindS s).1) (kindS s).2).bind fun (vs, r1) => (partsS (rdS d) (kindS s).1 r1).map fun (ts, r2) => (.node (kindS s).1 (vs.getD 0 0) (vs.getD 1 0) ts, r2)

theorem trim_le (s x : List UInt8) : (Lib.trimPrefix s x).length ≤ s.length := by
  unfold Lib.trimPrefix
  split
  · rw [List.length_drop]; omega
  · exact Nat.le_refl _
theorem trim_lt {s : List UInt8} {c : UInt8} (h : Lib.hasPrefix s [c] = true) : (Lib.trimPrefix s [c]).length < s.length := by
  have hl : 1 ≤ s.length := by
    unfold Lib.hasPrefix at h
    exact (List.isPrefixOf_iff_prefix.1 h).length_le
  unfold Lib.trimPrefix
  rw [if_pos h, List.length_drop]
  simp
  omega
theorem numsS_len : ∀ (j : Nat) (s : List UInt8) (vs : List Nat) (r : List UInt8), numsS j s = some (vs, r) → vs.length = j ∧ r.length ≤ s.length ∧ ∀ v ∈ vs, v < 18446744073709551616
  | 0, s, vs, r, h => by
    unfold numsS at h
    injection h with h
    injection h with h1 h2
    subst h1 h2
    simp
  | j + 1, s, vs, r, h => by
    unfold numsS at h
    obtain ⟨⟨vs0, r0⟩, h0, h⟩ := Option.bind_eq_some_iff.1 h
    obtain ⟨i1, i2, i3⟩ := numsS_len j s vs0 r0 h0
    have key : ∀ q, q.length ≤ r0.length → ((numS q).map fun (x : Nat × List UInt8) => (vs0 ++ [x.1], x.2)) = some (vs, r) → vs.length = j + 1 ∧ r.length ≤ s.length ∧ ∀ v ∈ vs, v < 18446744073709551616 := by
      intro q hq hm
      obtain ⟨⟨v, r'⟩, hv, he⟩ := Option.map_eq_some_iff.1 hm
      injection he with h1 h2
      subst h1 h2
      obtain ⟨l1, l2⟩ := numS_lt hv
      refine ⟨by simp [i1], by simp only; omega, fun x hx => ?_⟩
      rcases List.mem_append.1 hx with hx | hx
      · exact i3 x hx
      · obtain rfl : x = v := by simpa using hx
        exact l1
    simp only at h
    split at h
    · exact key r0 (Nat.le_refl _) h
    · split at h
      · exact key _ (trim_le _ _) h
      · cases h
theorem moreS_len {f : List UInt8 → Option (T × List UInt8)} (hf : ∀ s t r, f s = some (t, r) → r.length < s.length) : ∀ (n : Nat) (s : List UInt8) (ts : List T) (r : List UInt8), moreS f n s = some (ts, r) → r.length < s.length
  | 0, s, ts, r, h => by cases h
  | n + 1, s, ts, r, h => by
    unfold moreS at h
    split at h
    · rename_i h44
      obtain ⟨⟨t, r'⟩, h1, h⟩ := Option.bind_eq_some_iff.1 h
      obtain ⟨⟨ts', r2⟩, h2, he⟩ := Option.map_eq_some_iff.1 h
      injection he with e1 e2
      subst e1 e2
      have := hf _ _ _ h1
      have := moreS_len hf n r' ts' r2 h2
      have := trim_lt h44
      simp only at *
      omega
    · split at h
      · rename_i h41
        injection h with h
        injection h with e1 e2
        subst e1 e2
        exact trim_lt h41
      · cases h
/-- More fuel than there are bytes changes nothing. -/
theorem moreS_fuel {f : List UInt8 → Option (T × List UInt8)} (hf : ∀ s t r, f s = some (t, r) → r.length < s.length) : ∀ (n m : Nat) (s : List UInt8), s.length + 1 ≤ n → s.length + 1 ≤ m → moreS f n s = moreS f m s
  | 0, m, s, h, _ => by omega
  | n + 1, 0, s, _, h => by omega
  | n + 1, m + 1, s, hn, hm => by
    unfold moreS
    split
    · rename_i h44
      have := trim_lt h44
      cases hfs : f (Lib.trimPrefix s [44]) with
      | none => rfl
      | some tr =>
        obtain ⟨t, r⟩ := tr
        have := hf _ _ _ hfs
        simp only [Option.bind_some]
        rw [moreS_fuel hf n m r (by omega) (by omega)]
    · rfl
theorem listS_len {f : List UInt8 → Option (T × List UInt8)} (hf : ∀ s t r, f s = some (t, r) → r.length < s.length) {s : List UInt8} {ts : List T} {r : List UInt8} (h : listS f s = some (ts, r)) : r.length < s.length := by
  unfold listS at h
  split at h
  · rename_i h40
    have := trim_lt h40
    split at h
    · rename_i h41
      injection h with h
      injection h with e1 e2
      subst e1 e2
      have := trim_lt h41
      omega
    · obtain ⟨⟨t, r'⟩, h1, h⟩ := Option.bind_eq_some_iff.1 h
      obtain ⟨⟨ts', r2⟩, h2, he⟩ := Option.map_eq_some_iff.1 h
      injection he with e1 e2
      subst e1 e2
      have := hf _ _ _ h1
      have := moreS_len hf _ _ _ _ h2
      simp only at *
      omega
  · cases h
theorem rdS_len : ∀ (d : Nat) (s : List UInt8) (t : T) (r : List UInt8), rdS d s = some (t, r) → r.length < s.length
  | 0, s, t, r, h => by cases h
  | d + 1, s, t, r, h => by
    unfold rdS at h
    split at h
    · cases h
    · rename_i hk
      obtain ⟨⟨vs, r1⟩, h1, h⟩ := Option.bind_eq_some_iff.1 h
      obtain ⟨⟨ts, r2⟩, h2, he⟩ := Option.map_eq_some_iff.1 h
      injection he with e1 e2
      subst e1 e2
      have h3 := (numsS_len _ _ _ _ h1).2.1
      have h4 := (kindS_le s).2.2 hk
      unfold partsS at h2
      split at h2
      · obtain ⟨⟨t', r'⟩, h5, he⟩ := Option.map_eq_some_iff.1 h2
        injection he with e1 e2
        subst e2
        have := rdS_len d _ _ _ h5
        simp only at *
        omega
      · split at h2
        · have := listS_len (rdS_len d) h2
          simp only at *
          omega
        · injection h2 with h2
          injection h2 with e1 e2
          subst e2
          simp only at *
          omega

end Go.Proofs.YtbcadnkdehknoaaGreatDoor

namespace Go.Proofs.YtbcadnkdehknoaaGreatDoor
open Go Go.RowKit
set_option linter.unusedVariables false

/-- Four cells at a block's head, written. -/
def put4 (w : World) (g : Nat) (a b c d : Value) : World := (((w.setCell ⟨g, 0, none⟩ a).setCell ⟨g, 1, none⟩ b).setCell ⟨g, 2, none⟩ c).setCell ⟨g, 3, none⟩ d
theorem put4_row {w : World} {g : Nat} {t : TypeId} {x0 x1 x2 x3 : Value} (h : w.heap[g]? = some (.cells #[x0, x1, x2, x3] t (0, 0))) (a b c d : Value) : (put4 w g a b c d).heap[g]? = some (.cells #[a, b, c, d] t (0, 0)) := by
  have h1 := Joins.block_setCell (i := 0) h a
  have h2 := Joins.block_setCell (i := 1) h1 b
  have h3 := Joins.block_setCell (i := 2) h2 c
  have h4 := Joins.block_setCell (i := 3) h3 d
  exact h4
theorem put4_else (w : World) {g k : Nat} (h : k ≠ g) (a b c d : Value) : (put4 w g a b c d).heap[k]? = w.heap[k]? := by
  unfold put4
  rw [Below.heap_setCell _ _ _ _ h, Below.heap_setCell _ _ _ _ h, Below.heap_setCell _ _ _ _ h, Below.heap_setCell _ _ _ _ h]
theorem put4_size (w : World) (g : Nat) (a b c d : Value) : (put4 w g a b c d).heap.size = w.heap.size := by simp [put4, World.setCell]
theorem put4_below {w0 w : World} {B g : Nat} (h : Below B w0 w) (hg : B ≤ g) (a b c d : Value) : Below B w0 (put4 w g a b c d) :=
  (((h.setCell (p := ⟨g, 0, none⟩) hg a).setCell (p := ⟨g, 1, none⟩) hg b).setCell (p := ⟨g, 2, none⟩) hg c).setCell (p := ⟨g, 3, none⟩) hg d

end Go.Proofs.YtbcadnkdehknoaaGreatDoor

namespace Go.Proofs.YtbcadnkdehknoaaGreatDoor
open Go Go.RowKit
set_option linter.unusedVariables false

theorem Tryz.infoR : (Tryz.prog.info? 36).map (fun i => (i.zero, i.size, i.bytes)) = some (some (.agg #[.int .i64 0, .int .u64 0, .int .u64 0, .slice none 0 0]), 4, 48) := by kernel_rfl

theorem new_val (w : World) (E : TypeId) (u : V) : Rd (w.alloc (.cells #[.int .i64 u.kind, .int .u64 (u.a : Int), .int .u64 (u.b : Int), u.sl] E)) (w.heap.size + 1) 4 (some ⟨w.heap.size, 0, none⟩) 1 (vCells [u]) := by
  refine ⟨by rw [vCells_length]; rfl, fun _ => ⟨_, rfl, by simp, fun j x hx => ?_⟩⟩
  have hr := heap_alloc_new w (.cells #[.int .i64 u.kind, .int .u64 (u.a : Int), .int .u64 (u.b : Int), u.sl] E)
  have e : (⟨w.heap.size, 0, none⟩ : Addr).add j = ⟨w.heap.size, j, none⟩ := by unfold Addr.add; split <;> simp_all
  rw [e, cell_of_row _ _ j _ _ _ hr]
  have hv : vCells [u] = [.int .i64 u.kind, .int .u64 (u.a : Int), .int .u64 (u.b : Int), u.sl] := rfl
  rw [hv] at hx
  rw [← hx]
  simp

set_option maxRecDepth 100000 in
set_option maxHeartbeats 1600000 in
theorem dexpr_any : ∀ (v : V) (w : World) (lo hi : Nat), Lies w lo hi v → hi ≤ w.heap.size → v.abs.count ≤ 1000 → Calls Tryz.prog 38 #[v.val] w (MadeT 36 v.abs w) := by
  refine V.ind fun k a b A c ps ih w lo hi hL hhi hct => ?_
  obtain ⟨hlen, hcap', hk, ha, hb⟩ := hL.caps
  have hlc : ps.length ≤ 1000 := by
    rw [V.count_node] at hct
    have := length_le_countL (V.absL ps)
    rw [absL_length] at this
    omega
  have IH : Hid (∀ (i : Nat) (p : V), ps[i]? = some p → ∀ W, Below w.heap.size w W → Calls Tryz.prog 38 #[p.val] W (MadeT 36 p.abs W)) := fun i p hp W hW => ih p (List.mem_of_getElem? hp) W lo hi ((hL.part (List.mem_of_getElem? hp)).under (hW.mono hhi)) (Nat.le_trans hhi hW.size) (hL.small hct hp).1
  have HL : Hid (∀ W, Below w.heap.size w W → Lies W lo hi (.node k a b A c ps)) := fun W hW => hL.under (hW.mono hhi)
  have HK := Lib_hid (And.intro hk (And.intro ha hb))
  clear ih hL hct
  show Calls Tryz.prog 38 #[.agg #[.int .i64 k, .int .u64 (a : Int), .int .u64 (b : Int), .slice A ps.length c]] w _
  obtain ⟨i0, hi0, hz0, hz1, hz2⟩ := info_parts Tryz.infoR
  have r1 := heap_alloc_new w (.cells #[.int .i64 k, .int .u64 (a : Int), .int .u64 (b : Int), .slice A ps.length c] 27)
  have b1 := below_new w (.cells #[.int .i64 k, .int .u64 (a : Int), .int .u64 (b : Int), .slice A ps.length c] 27)
  obtain ⟨w1, hw1⟩ : ∃ w1, w1 = w.alloc (.cells #[.int .i64 k, .int .u64 (a : Int), .int .u64 (b : Int), .slice A ps.length c] 27) := ⟨_, rfl⟩
  have s1 : w1.heap.size = w.heap.size + 1 := by rw [hw1]; simp
  rw [← hw1] at r1 b1
  have r2 := heap_alloc_new w1 (.cells #[.int .i64 0, .int .u64 0, .int .u64 0, .slice none 0 0] 36)
  have b2 := below_new w1 (.cells #[.int .i64 0, .int .u64 0, .int .u64 0, .slice none 0 0] 36)
  obtain ⟨w2, hw2⟩ : ∃ w2, w2 = w1.alloc (.cells #[.int .i64 0, .int .u64 0, .int .u64 0, .slice none 0 0] 36) := ⟨_, rfl⟩
  have s2 : w2.heap.size = w.heap.size + 2 := by rw [hw2]; simp [s1]
  rw [← hw2, s1] at r2 b2
  have r3 := heap_alloc_new w2 (.cells #[.int .i64 k, .int .u64 (a : Int), .int .u64 (b : Int), .slice none 0 0] 36)
  have b3 := below_new w2 (.cells #[.int .i64 k, .int .u64 (a : Int), .int .u64 (b : Int), .slice none 0 0] 36)
  obtain ⟨w3, hw3⟩ : ∃ w3, w3 = w2.alloc (.cells #[.int .i64 k, .int .u64 (a : Int), .int .u64 (b : Int), .slice none 0 0] 36) := ⟨_, rfl⟩
  have s3 : w3.heap.size = w.heap.size + 3 := by rw [hw3]; simp [s2]
  rw [← hw3, s2] at r3 b3
  have r12 := (b2.block _ (by omega)).trans r1
  have r13 := (b3.block _ (by omega)).trans r12
  have r23 := (b3.block _ (by omega)).trans r2
  have hbw := (b1.trans (b2.mono (by omega))).trans (b3.mono (by omega))
  have HQ := Lib_hid (And.intro r13 (And.intro r23 (And.intro r3 (And.intro hbw s3))))
  have e0 := cell_of_row w2 _ 0 _ _ _ r12
  have e1 := cell_of_row w2 _ 1 _ _ _ r12
  have e2 := cell_of_row w2 _ 2 _ _ _ r12
  simp at e0 e1 e2
  subst hw3 hw2 hw1
  clear r1 r2 r3 r12 r13 r23 b1 b2 b3 hbw s3
  go_enter Tryz.func38, Tryz.ntmps38
  go_upto_region 2 with (fail)
  obtain ⟨hq1, hq2, hq3, hbw, hs4⟩ := HQ.out
  clear HQ e0 e1 e2 s1 s2
  generalize ((w.alloc _).alloc _).alloc (.cells #[.int .i64 k, .int .u64 (a : Int), .int .u64 (b : Int), .slice none 0 0] 36) = w4 at *
  have H0 : Hid (TRow 36 (w.heap.size + 3) (.slice none 0 0) [] w4) := TRow.nil _ _ _
  have HQ2 := Lib_hid hq2
  clear hq2
  go_wp2
  go_loopw [4] (fun z W => ∃ (i : Nat) (us : List V) (A' : Option Addr) (c' : Nat), z = .int .i64 i ∧ i ≤ ps.length ∧ Hid (us.length = i ∧ V.absL us = V.absL (ps.take i)) ∧ Hid (TRow 36 (w.heap.size + 3) (.slice A' i c') us W) ∧
      W.heap[w.heap.size]? = some (.cells #[.int .i64 k, .int .u64 (a : Int), .int .u64 (b : Int), .slice A ps.length c] 27 (0, 0)) ∧
      Hid (W.heap[w.heap.size + 1]? = some (.cells #[.int .i64 0, .int .u64 0, .int .u64 0, .slice none 0 0] 36 (0, 0))) ∧
      W.heap[w.heap.size + 2]? = some (.cells #[.int .i64 k, .int .u64 (a : Int), .int .u64 (b : Int), .slice A' i c'] 36 (0, 0)) ∧ w.heap.size + 3 ≤ W.heap.size ∧ Below w.heap.size w W) (fun z _ => ps.length - (intOf z).toNat)
  case atStart => exact ⟨0, [], none, 0, rfl, Nat.zero_le _, Lib_hid ⟨rfl, by simp [V.absL]⟩, H0, hq1, HQ2, hq3, by omega, hbw⟩
  case round =>
    clear hq1 HQ2 hq3 H0 hs4 hbw
    obtain ⟨i, us, A', c', rfl, hi1, hus, hrow, hq1, hq2, hq3, hsz, hbw⟩ := hrel
    rename World => W
    have c3 := cell_of_row W _ 3 _ _ _ hq1
    simp at c3
    by_cases hlt : i < ps.length
    · obtain ⟨bb, off, p, rfl, hbb, hlb, hp, hLp, d0, d1, d2, d3⟩ := (HL.out W hbw).nth hlt
      have g3 := cell_of_row W _ 3 _ _ _ hq3
      simp at g3
      have CH : Hid (∀ W' : World, Below W.heap.size W W' → Calls Tryz.prog 38 #[.agg #[.int .i64 p.kind, .int .u64 (p.a : Int), .int .u64 (p.b : Int), .slice p.addr p.parts.length p.cap]] W' fun e w' => ∃ u : V, e = .returned (.agg #[.int .i64 u.kind, .int .u64 (u.a : Int), .int .u64 (u.b : Int), .slice u.addr u.parts.length u.cap]) ∧ u.abs = p.abs ∧ Lies w' W'.heap.size w'.heap.size u ∧ Shp 36 w' W'.heap.size u ∧ Below W'.heap.size W' w') := fun W' hW' => (IH.out i p hp W' (hbw.trans (hW'.mono hbw.size))).mono fun e w' ⟨u, he, hr⟩ => ⟨u, he, hr⟩
      have S8 : Hid (∀ W' : World, (∀ g, g < w.heap.size + 1 → W'.heap[g]? = W.heap[g]?) → W'.cell? ⟨w.heap.size, 3, none⟩ = some (.slice (some ⟨bb, off, none⟩) ps.length c) ∧
          W'.cell? ⟨bb, off + i * 4, none⟩ = some (.int .i64 p.kind) ∧ W'.cell? ⟨bb, off + i * 4 + 1, none⟩ = some (.int .u64 (p.a : Int)) ∧ W'.cell? ⟨bb, off + i * 4 + 2, none⟩ = some (.int .u64 (p.b : Int)) ∧ W'.cell? ⟨bb, off + i * 4 + 3, none⟩ = some (.slice p.addr p.parts.length p.cap)) := by
        intro W' hk
        have key : ∀ g j, g < w.heap.size + 1 → W'.cell? ⟨g, j, none⟩ = W.cell? ⟨g, j, none⟩ := fun g j hg => World.cell?_of_block (a := ⟨g, j, none⟩) (hk g hg)
        exact ⟨(key _ _ (by omega)).trans c3, (key _ _ (by omega)).trans d0, (key _ _ (by omega)).trans d1, (key _ _ (by omega)).trans d2, (key _ _ (by omega)).trans d3⟩
      have HP := Lib_hid hp
      have hoi := hrow.out.own
      rw [hus.out.1] at hoi
      have hcp := own_cap hoi
      have hm1 : i + 1 ≤ maxLen := by unfold maxLen; omega
      have hm2 : (i + 1) * 48 ≤ 140737488355328 := by omega
      have HO : Hid (∀ w2 : World, Below W.heap.size W w2 → w2.ownsRow (w.heap.size + 3) 36 4 (.slice A' i c') i (vCells us)) := fun w2 h2 => by
        have := own_below hrow.out.own h2 (own_lt hrow.out.own)
        rwa [hus.out.1] at this
      have HE : Hid (∀ (w2 w3 w5 : World) (u : V) (v' : Value), Below W.heap.size W w2 → u.abs = p.abs → Lies w2 W.heap.size w2.heap.size u → Shp 36 w2 W.heap.size u → Below w2.heap.size w2 w3 → Stp w3 w5 (.slice A' i c') v' →
          w5.ownsRow (w.heap.size + 3) 36 4 v' (i + 1) (vCells us ++ vCells [u]) →
          ((us ++ [u]).length = i + 1 ∧ V.absL (us ++ [u]) = V.absL (ps.take (i + 1))) ∧ TRow 36 (w.heap.size + 3) v' (us ++ [u]) w5 ∧ (∀ g, g < w.heap.size + 3 → w5.heap[g]? = W.heap[g]?) ∧ w.heap.size + 3 ≤ w5.heap.size ∧ Below w.heap.size w w5) := by
        intro w2 w3 w5 u v' hb2 hua huL huS hb3 hst ho
        have hge := own_ge hrow.out.own
        have hs2 := hb2.size
        have hs3 := hb3.size
        refine ⟨⟨by simp [hus.out.1], ?_⟩, ?_, fun g hg => ?_, by have := hst.grow.size; omega, ?_⟩
        · rw [absL_take HP.out, absL_map, List.map_append, ← absL_map, hus.out.2, List.map_cons, List.map_nil, hua]
        · have := hrow.out.push (w2 := w2) (w3 := w3) (w4 := w5) (v' := v') (u := u) hsz hb2 huL huS hb3 hst (by rw [hus.out.1]; exact ho)
          exact this
        · exact (hst.grow.block g (by omega) (fun e => by have := hge g e.symm; omega)).trans ((hb3.block g (by omega)).trans (hb2.block g (by omega)))
        · exact ((hbw.trans (hb2.mono hbw.size)).trans (hb3.mono (by have := hbw.size; omega))).trans (hst.below (by have := hbw.size; omega) fun k hk => by have := hge k hk; omega)
      have HQ := Lib_hid (And.intro hq1 (And.intro hq2.out hq3))
      have HV : Hid (∀ (w2 : World) (u : V), Rd (w2.alloc (.cells #[.int .i64 u.kind, .int .u64 (u.a : Int), .int .u64 (u.b : Int), .slice u.addr u.parts.length u.cap] 36)) (w2.heap.size + 1) 4 (some ⟨w2.heap.size, 0, none⟩) 1 (vCells [u])) := fun w2 u => new_val w2 _ u
      clear hus hrow hoi hq1 hq2 hq3 d0 d1 d2 d3 hp hLp
      go_wp2
      clear c3
      obtain ⟨s0, s1', s2', s3', s4'⟩ := S8.out W.drew (fun _ _ => rfl)
      have g3' : W.drew.cell? ⟨w.heap.size + 2, 3, none⟩ = some (.slice A' i c') := g3
      have gl : w.heap.size + 2 < W.drew.heap.size := by show _ < W.heap.size; omega
      clear g3
      go_region_law
        ((first
          | ((refine step_app rfl (.tmp 20) (.tmp 27) 34 rfl (w.heap.size + 3) 36 i0 (.agg #[.int .i64 0, .int .u64 0, .int .u64 0, .slice none 0 0]) 4 48 Tryz.underlying34 hi0 hz0 hz1 hz2 rfl (by decide) (.slice A' i c') i (vCells us) rfl (own_below (HO.out w2 hb2) (below_new w2 _) (own_lt (HO.out w2 hb2))) (w2.heap.size + 1) (some ⟨w2.heap.size, 0, none⟩) 1 1 (vCells [u]) rfl (HV.out w2 u) (v_one _) hm1 hm2 (by have := hb2.size; simp; omega) ?_); intro v5 w5 ho5 hs5; have hx := HE.out w2 _ w5 u v5 hb2 hua huL huS (below_new w2 _) hs5 ho5; obtain ⟨A5, c5, rfl, _⟩ := own_form ho5; have hk5 := hx.2.2.1; have hq5 := (hk5 (w.heap.size + 2) (by omega)).trans HQ.out.2.2; have g5 := cell_of_row w5 _ 3 _ _ _ hq5; have z5 := frozen_of_row w5 _ 3 _ _ hq5; simp at g5)
          | (go_simp; refine (CH.out _ (by exact below_like4 (Below.refl _ _) rfl rfl rfl rfl)).mono ?_; rintro e w2 ⟨u, rfl, hua, huL, huS, hb2'⟩; dsimp only; have hb2 : Below W.heap.size W w2 := ⟨hb2'.os, hb2'.tape, hb2'.output, hb2'.size, hb2'.block⟩; have hk2 : ∀ g, g < w.heap.size + 3 → w2.heap[g]? = W.heap[g]? := (fun g hg => hb2.block g (by omega)); have g2 : w2.cell? ⟨w.heap.size + 2, 3, none⟩ = some (.slice A' i c') := (World.cell?_of_block (a := ⟨w.heap.size + 2, 3, none⟩) (hk2 (w.heap.size + 2) (by omega))).trans g3'; have gl2 : w.heap.size + 2 < w2.heap.size := (by have := hb2.size; omega); obtain ⟨t0, t1, t2, t3, t4⟩ := S8.out w2 (fun g hg => hk2 g (by omega)))))
      all_goals
        have hr6 := hx.2.1.keep (w' := w5.setCell ⟨w.heap.size + 2, 3, none⟩ (.slice A5 (i + 1) c5)) (by simp [World.setCell]) (fun g hg _ => Below.heap_setCell w5 ⟨w.heap.size + 2, 3, none⟩ _ g (by show g ≠ w.heap.size + 2; omega))
        have q61 := (Below.heap_setCell w5 ⟨w.heap.size + 2, 3, none⟩ (.slice A5 (i + 1) c5) w.heap.size (by show w.heap.size ≠ w.heap.size + 2; omega)).trans ((hk5 _ (by omega)).trans HQ.out.1)
        have q62 := (Below.heap_setCell w5 ⟨w.heap.size + 2, 3, none⟩ (.slice A5 (i + 1) c5) (w.heap.size + 1) (by show w.heap.size + 1 ≠ w.heap.size + 2; omega)).trans ((hk5 _ (by omega)).trans HQ.out.2.1)
        have q63 := Joins.block_setCell (i := 3) hq5 (.slice A5 (i + 1) c5)
        have b6 := hx.2.2.2.2.setCell (p := ⟨w.heap.size + 2, 3, none⟩) (by show w.heap.size ≤ w.heap.size + 2; omega) (.slice A5 (i + 1) c5)
        have s6 : w.heap.size + 3 ≤ (w5.setCell ⟨w.heap.size + 2, 3, none⟩ (.slice A5 (i + 1) c5)).heap.size := by have := hx.2.2.2.1; simpa [World.setCell] using this
        have HR6 := Lib_hid (And.intro hr6 (And.intro hx.1 (And.intro q61 (And.intro q62 (And.intro q63 (And.intro s6 b6))))))
        clear hr6 q61 q62 q63 b6 s6 hx hk5 hq5 g5 z5 ho5 hs5 hua huL huS hb2 hb2' hk2 g2 gl2 t0 t1 t2 t3 t4 s0 s1' s2' s3' s4' g3' gl CH HE HO HV S8
        generalize w5.setCell ⟨w.heap.size + 2, 3, none⟩ (.slice A5 (i + 1) c5) = w6 at *
        go_wp2
        go_roundw
        case rel => exact ⟨i + 1, us ++ [u], A5, c5, by go_num, by omega, HR6.out.2.1, HR6.out.1, HR6.out.2.2.1, HR6.out.2.2.2.1, HR6.out.2.2.2.2.1, HR6.out.2.2.2.2.2.1, HR6.out.2.2.2.2.2.2⟩
        case measure => simp [intOf]; omega
    · obtain rfl : i = ps.length := by omega
      obtain ⟨-, hLi, hSh⟩ := hrow.out.tree (k := k) (a := a) (b := b) HK.out.1 HK.out.2.1 HK.out.2.2
      have hul := hus.out.1
      have hcp : ps.length ≤ c' := by have := hrow.out.own; rw [hul] at this; exact (own_cap this).1
      have HF : Hid (MadeT 36 (V.node k a b A c ps).abs w (.returned (.agg #[.int .i64 k, .int .u64 (a : Int), .int .u64 (b : Int), .slice A' ps.length c'])) (put4 W (w.heap.size + 1) (.int .i64 k) (.int .u64 (a : Int)) (.int .u64 (b : Int)) (.slice A' ps.length c'))) := by
        refine ⟨.node k a b A' c' us, by rw [← hul]; rfl, ?_, ?_, ?_, put4_below hbw (by omega) _ _ _ _⟩
        · rw [V.abs, V.abs, hus.out.2, List.take_length]
        · rw [put4_size]
          exact (hLi.keep fun p h1 _ => World.cell?_of_block (put4_else W (by omega) _ _ _ _)).more (by omega) (Nat.le_refl _)
        · exact (Shp.keepL _ hLi hSh fun g h1 _ => put4_else W (by omega) _ _ _ _).more (by omega)
      have HR : Hid ((put4 W (w.heap.size + 1) (.int .i64 k) (.int .u64 (a : Int)) (.int .u64 (b : Int)) (.slice A' ps.length c')).heap[w.heap.size + 1]? = _) := put4_row hq2.out _ _ _ _
      have e0 := cell_of_row W _ 0 _ _ _ hq3
      have e1 := cell_of_row W _ 1 _ _ _ hq3
      have e2 := cell_of_row W _ 2 _ _ _ hq3
      have e3 := cell_of_row W _ 3 _ _ _ hq3
      have f0 := cell_of_row W _ 0 _ _ _ hq2.out
      have f1 := cell_of_row W _ 1 _ _ _ hq2.out
      have f2 := cell_of_row W _ 2 _ _ _ hq2.out
      have f3 := cell_of_row W _ 3 _ _ _ hq2.out
      have z0 := frozen_of_row W (w.heap.size + 1) 0 _ _ hq2.out
      have z1 := frozen_of_row W (w.heap.size + 1) 1 _ _ hq2.out
      have z2 := frozen_of_row W (w.heap.size + 1) 2 _ _ hq2.out
      have z3 := frozen_of_row W (w.heap.size + 1) 3 _ _ hq2.out
      simp at e0 e1 e2 e3 f0 f1 f2 f3
      clear hus hrow hLi hSh hul hq1 hq2 hq3 hbw IH HL
      go_wp2
      show bodyPost _ _ _ _ _ (put4 W (w.heap.size + 1) (.int .i64 k) (.int .u64 (a : Int)) (.int .u64 (b : Int)) (.slice A' ps.length c'))
      have HR2 := HR.out
      have HF2 := HF.out
      clear HR HF f0 f1 f2 f3 e0 e1 e2 e3 z0 z1 z2 z3
      generalize put4 W (w.heap.size + 1) (.int .i64 k) (.int .u64 (a : Int)) (.int .u64 (b : Int)) (.slice A' ps.length c') = W2 at *
      have d0 : W2.cell? ⟨w.heap.size + 1, 0, none⟩ = some (.int .i64 k) := cell_of_row W2 _ 0 _ _ _ HR2
      have d1 : W2.cell? ⟨w.heap.size + 1, 1, none⟩ = some (.int .u64 (a : Int)) := cell_of_row W2 _ 1 _ _ _ HR2
      have d2 : W2.cell? ⟨w.heap.size + 1, 2, none⟩ = some (.int .u64 (b : Int)) := cell_of_row W2 _ 2 _ _ _ HR2
      have d3 : W2.cell? ⟨w.heap.size + 1, 3, none⟩ = some (.slice A' ps.length c') := cell_of_row W2 _ 3 _ _ _ HR2
      exact bodyPost_ret (v := .agg #[.int .i64 k, .int .u64 (a : Int), .int .u64 (b : Int), .slice A' ps.length c']) (by simp [results, Tryz.results38, go_sem, d0, d1, d2, d3]) rfl HF2

end Go.Proofs.YtbcadnkdehknoaaGreatDoor

namespace Go.Proofs.YtbcadnkdehknoaaGreatDoor
open Go Go.RowKit
set_option linter.unusedVariables false

/-- How a node's reading ends. -/
structure NdR (d m : Nat) (s : List UInt8) (bad : Bool) (w w' : World) (k : Int) (a b n c m' : Nat) (A : Option Addr) (s' : List UInt8) (bad' : Bool) : Prop where
  len : s'.length ≤ s.length
  bd : bad = true → bad' = true ∧ m' ≤ m + d + 1
  ok : bad = false → m' ≤ 34 + d ∧ ((∃ t us, rdS d s = some (t, s') ∧ m + t.count ≤ 32 ∧ bad' = false ∧ m' = m + t.count ∧ (V.node k a b A c us).abs = t ∧ us.length = n ∧ Lies w' w.heap.size w'.heap.size (.node k a b A c us) ∧ Shp 27 w' w.heap.size (.node k a b A c us)) ∨
    ((∀ t r, rdS d s = some (t, r) → 32 < m + t.count) ∧ bad' = true))
def NdEnd (d m : Nat) (s : List UInt8) (bad : Bool) (g : Nat) (w : World) (e : Ending) (w' : World) : Prop :=
  ∃ (k : Int) (a b n c m' : Nat) (A : Option Addr) (s' : List UInt8) (bad' : Bool), e = .returned (.agg #[.int .i64 k, .int .u64 (a : Int), .int .u64 (b : Int), .slice A n c]) ∧ w.grownBy w' (some g) ∧ w'.heap[g]? = some (RdrC (m' : Int) s' bad') ∧ NdR d m s bad w w' k a b n c m' A s' bad'
def NodeOK (d : Nat) : Prop := ∀ (m : Nat) (s : List UInt8) (bad : Bool) (B g : Nat) (w : World), w.heap[g]? = some (RdrC (m : Int) s bad) → Env B w → B ≤ g → s.length ≤ 1000000 → (bad = false → m ≤ 32) → m ≤ 100 →
  Calls Tryz.prog 202 #[.pointer (some ⟨g, 0, none⟩), .int .i64 ((9 - d : Nat) : Int)] w (NdEnd d m s bad g w)

/-- How a list's reading ends. -/
structure LsR (d m : Nat) (s : List UInt8) (bad : Bool) (w w' : World) (v : Value) (m' : Nat) (s' : List UInt8) (bad' : Bool) : Prop where
  len : s'.length ≤ s.length
  bd : bad = true → bad' = true ∧ m' ≤ m + d + 1
  ok : bad = false → m' ≤ 34 + d ∧ ((∃ us, listS (rdS d) s = some (V.absL us, s') ∧ m + T.countL (V.absL us) ≤ 32 ∧ bad' = false ∧ m' = m + T.countL (V.absL us) ∧ TRow 27 w.heap.size v us w') ∨
    ((∀ ts r, listS (rdS d) s = some (ts, r) → 32 < m + T.countL ts) ∧ bad' = true))
def LsEnd (d m : Nat) (s : List UInt8) (bad : Bool) (g : Nat) (w : World) (e : Ending) (w' : World) : Prop :=
  ∃ (n c m' : Nat) (A : Option Addr) (s' : List UInt8) (bad' : Bool), e = .returned (.slice A n c) ∧ w.grownBy w' (some g) ∧ w'.heap[g]? = some (RdrC (m' : Int) s' bad') ∧ LsR d m s bad w w' (.slice A n c) m' s' bad'

/-- Between two parts of a list. -/
structure LsI (d m : Nat) (s : List UInt8) (bad : Bool) (w W : World) (v : Value) (mm : Nat) (ss : List UInt8) (bb : Bool) : Prop where
  len : ss.length ≤ s.length
  bd : bad = true → bb = true ∧ mm ≤ m + d + 1
  ok : bad = false → mm ≤ 34 + d ∧ ((∃ us, TRow 27 w.heap.size v us W ∧ bb = false ∧ mm = m + T.countL (V.absL us) ∧ mm ≤ 32 ∧ listS (rdS d) s = (moreS (rdS d) (ss.length + 1) ss).map fun x => (V.absL us ++ x.1, x.2)) ∨
    ((∀ ts r, listS (rdS d) s = some (ts, r) → 32 < m + T.countL ts) ∧ bb = true))

theorem new_raw (w : World) (E : TypeId) (x0 x1 x2 x3 : Value) : Rd (w.alloc (.cells #[x0, x1, x2, x3] E)) (w.heap.size + 1) 4 (some ⟨w.heap.size, 0, none⟩) 1 [x0, x1, x2, x3] := by
  refine ⟨rfl, fun _ => ⟨_, rfl, by simp, fun j x hx => ?_⟩⟩
  have hr := heap_alloc_new w (.cells #[x0, x1, x2, x3] E)
  have e : (⟨w.heap.size, 0, none⟩ : Addr).add j = ⟨w.heap.size, j, none⟩ := by unfold Addr.add; split <;> simp_all
  rw [e, cell_of_row _ _ j _ _ _ hr, ← hx]
  simp

section
variable {d m : Nat} {s : List UInt8} {bad : Bool}
/-- The first part was read. -/
theorem LsI.start {w w1 w2 : World} {k : Int} {a b n c m' g : Nat} {A : Option Addr} {s' : List UInt8} {bad' : Bool} (hm : bad = false → m ≤ 32) (hw1 : w.heap.size ≤ w1.heap.size) (hgr : w1.grownBy w2 (some g))
    (h41 : Lib.hasPrefix (Lib.trimPrefix s [40]) [41] = false) (h : NdR d m (Lib.trimPrefix s [40]) (bad || !Lib.hasPrefix s [40]) w1 w2 k a b n c m' A s' bad') :
    LsI d m s bad w (w2.alloc (.cells #[.int .i64 k, .int .u64 (a : Int), .int .u64 (b : Int), .slice A n c] 27)) (.slice (some ⟨w2.heap.size, 0, none⟩) 1 1) m' s' bad' := by
  refine ⟨Nat.le_trans h.len (trim_le _ _), fun hb => h.bd (by rw [hb]; rfl), fun hb => ?_⟩
  have hm := hm hb
  cases h40 : Lib.hasPrefix s [40] with
  | false =>
    obtain ⟨h1, h2⟩ := h.bd (by rw [hb, h40]; rfl)
    refine ⟨by omega, .inr ⟨fun ts r hl => ?_, h1⟩⟩
    unfold listS at hl
    rw [h40] at hl
    cases hl
  | true =>
    obtain ⟨h1, h2⟩ := h.ok (by rw [hb, h40]; rfl)
    have hu : listS (rdS d) s = (rdS d (Lib.trimPrefix s [40])).bind fun (t, r') => (moreS (rdS d) (r'.length + 1) r').map fun (ts, r2) => (t :: ts, r2) := by
      unfold listS
      rw [if_pos h40, if_neg (by rw [h41]; simp)]
    refine ⟨h1, ?_⟩
    rcases h2 with ⟨t, us, e1, e2, e3, e4, e5, e6, hL, hS⟩ | ⟨hno, hbad⟩
    · subst e6
      refine .inl ⟨[.node k a b A c us], ⟨?_, ?_⟩, e3, ?_, by omega, ?_⟩
      · have := World.ownsRow_lit (base := w.heap.size) (e := 27) (size := 4) w2 #[.int .i64 k, .int .u64 (a : Int), .int .u64 (b : Int), .slice A us.length c] 1 (by have := hgr.size; omega) (by decide) rfl
        exact this
      · intro u hu
        obtain rfl : u = .node k a b A c us := by simpa using hu
        have hb2 := below_new w2 (.cells #[.int .i64 k, .int .u64 (a : Int), .int .u64 (b : Int), .slice A us.length c] 27)
        exact ⟨w1.heap.size, w2.heap.size, hw1, hb2.size, hL.under (hb2.mono (Nat.le_refl _)), hS.under hb2, fun g' hg' => .inr (by have e : w2.heap.size = g' := Option.some.inj hg'; omega)⟩
      · rw [e4, ← e5]; simp [V.absL, T.countL]
      · rw [hu, e1]
        simp only [Option.bind_some]
        congr 1
        funext x
        simp [V.absL, e5]
    · refine .inr ⟨fun ts r hl => ?_, hbad⟩
      rw [hu] at hl
      obtain ⟨⟨t, r'⟩, h3, h4⟩ := Option.bind_eq_some_iff.1 hl
      obtain ⟨⟨ts', r2⟩, h5, he⟩ := Option.map_eq_some_iff.1 h4
      injection he with e1 e2
      subst e1
      have := hno _ _ h3
      rw [T.countL]
      omega

/-- A further part was read. -/
theorem LsI.step {w W W1 w2 w4 : World} {v v' : Value} {mm : Nat} {ss : List UInt8} {k : Int} {a b n c m' g : Nat} {A : Option Addr} {s' : List UInt8} {bad' : Bool} (h : LsI d m s bad w W v mm ss false)
    (hww : w.heap.size ≤ W.heap.size) (hg : g < w.heap.size) (hgr1 : W.grownBy W1 (some g)) (hgr2 : W1.grownBy w2 (some g)) (h44 : Lib.hasPrefix ss [44] = true) (hn : NdR d mm (Lib.trimPrefix ss [44]) false W1 w2 k a b n c m' A s' bad')
    (hst : Stp (w2.alloc (.cells #[.int .i64 k, .int .u64 (a : Int), .int .u64 (b : Int), .slice A n c] 27)) w4 v v')
    (ho : ∀ us, TRow 27 w.heap.size v us W → w4.ownsRow w.heap.size 27 4 v' (us.length + 1) (vCells us ++ [.int .i64 k, .int .u64 (a : Int), .int .u64 (b : Int), .slice A n c])) :
    LsI d m s bad w w4 v' m' s' bad' := by
  have hbf : bad = false := by
    cases hb : bad with
    | false => rfl
    | true => have := (h.bd hb).1; cases this
  refine ⟨Nat.le_trans (Nat.le_trans hn.len (trim_le _ _)) h.len, (fun hb => by rw [hbf] at hb; cases hb), fun hb => ?_⟩
  obtain ⟨h1, h2⟩ := h.ok hb
  obtain ⟨n1, n2⟩ := hn.ok rfl
  refine ⟨n1, ?_⟩
  rcases h2 with ⟨us, hT, -, hmm, h32, hspec⟩ | ⟨-, hx⟩
  · have hu : moreS (rdS d) (ss.length + 1) ss = (rdS d (Lib.trimPrefix ss [44])).bind fun (t, r') => (moreS (rdS d) ss.length r').map fun (ts, r2) => (t :: ts, r2) := by
      conv => lhs; unfold moreS
      rw [if_pos h44]
    have hlt := trim_lt h44
    rcases n2 with ⟨t, us2, e1, e2, e3, e4, e5, e6, hL, hS⟩ | ⟨hno, hbad⟩
    · subst e6
      have hT1 : TRow 27 w.heap.size v us W1 := hT.keep hgr1.size fun k hk1 hk2 => hgr1.block k hk2 (fun e => by injection e with e; omega)
      refine .inl ⟨us ++ [.node k a b A c us2], ?_, e3, ?_, by omega, ?_⟩
      · have hk2 : ∀ k, w.heap.size ≤ k → k < W1.heap.size → w2.heap[k]? = W1.heap[k]? := fun k hk1 hk2 => hgr2.block k hk2 (fun e => by injection e with e; omega)
        have hs2 := hgr2.size
        have hs1 := hgr1.size
        have hT2 : TRow 27 w.heap.size v us w2 := hT1.keep hs2 hk2
        have hb3 := below_new w2 (.cells #[.int .i64 k, .int .u64 (a : Int), .int .u64 (b : Int), .slice A us2.length c] 27)
        have hlt1 := own_lt hT1.own
        have hs4 := hst.grow.size
        have hrow : ∀ lo hi, (∀ g, v.ownBlock = some g → g < lo ∨ hi ≤ g) → hi ≤ w2.heap.size → ∀ g, v'.ownBlock = some g → g < lo ∨ hi ≤ g := by
          intro lo hi hv hh g' hg'
          rcases hst.row with e | ⟨q, e, hq⟩
          · exact hv g' (e ▸ hg')
          · rw [e] at hg'; injection hg' with hg'; have := hb3.size; omega
        have hkeep : ∀ lo hi, (∀ g, v.ownBlock = some g → g < lo ∨ hi ≤ g) → hi ≤ w2.heap.size → ∀ g, lo ≤ g → g < hi → w4.heap[g]? = w2.heap[g]? := by
          intro lo hi hv hh g' q1 q2
          refine (hst.grow.block g' (by have := hb3.size; omega) fun e => ?_).trans (hb3.block g' (by omega))
          rcases hv g' e.symm with h | h <;> omega
        refine ⟨by rw [List.length_append, vCells_append]; exact ho us hT, fun x hx => ?_⟩
        rcases List.mem_append.1 hx with hx | hx
        · obtain ⟨lo, hi, q1, q2, q3, q4, q5⟩ := hT2.el x hx
          have hk := hkeep lo hi q5 q2
          exact ⟨lo, hi, q1, by have := hb3.size; omega, q3.keep fun p hp hp2 => World.cell?_of_block (hk _ hp hp2), Shp.keepL x q3 q4 hk, hrow lo hi q5 q2⟩
        · obtain rfl : x = .node k a b A c us2 := by simpa using hx
          have hv : ∀ g, v.ownBlock = some g → g < W1.heap.size ∨ w2.heap.size ≤ g := fun g hg => .inl (hlt1 g hg)
          have hk := hkeep _ _ hv (Nat.le_refl _)
          exact ⟨W1.heap.size, w2.heap.size, by omega, by have := hb3.size; omega, hL.keep fun p hp hp2 => World.cell?_of_block (hk _ hp hp2), Shp.keepL _ hL hS hk, hrow _ _ hv (Nat.le_refl _)⟩
      · rw [e4, hmm, show V.absL (us ++ [.node k a b A c us2]) = V.absL us ++ [t] by rw [absL_map, List.map_append, ← absL_map, List.map_cons, List.map_nil, e5], countL_append]
        simp [T.countL]
        omega
      · rw [hspec, hu, e1]
        simp only [Option.bind_some]
        have hl := rdS_len d _ _ _ e1
        rw [moreS_fuel (rdS_len d) ss.length (s'.length + 1) s' (by omega) (Nat.le_refl _)]
        cases moreS (rdS d) (s'.length + 1) s' with
        | none => rfl
        | some x => simp [absL_map, e5]
    · refine .inr ⟨fun ts r hl => ?_, hbad⟩
      rw [hspec, hu] at hl
      obtain ⟨⟨ts1, r1⟩, hl, he⟩ := Option.map_eq_some_iff.1 hl
      obtain ⟨⟨t, r'⟩, h3, h4⟩ := Option.bind_eq_some_iff.1 hl
      obtain ⟨⟨ts', r2⟩, h5, he2⟩ := Option.map_eq_some_iff.1 h4
      injection he with e1 e2
      injection he2 with e3 e4
      subst e1 e3
      have := hno _ _ h3
      simp only [countL_append, T.countL]
      omega
  · cases hx

/-- The list ends. -/
theorem LsI.done {w W w' : World} {v : Value} {mm g : Nat} {ss : List UInt8} {bb : Bool} (h : LsI d m s bad w W v mm ss bb) (hg : g < w.heap.size) (hgr : W.grownBy w' (some g)) (hww : w.heap.size ≤ W.heap.size) (h44 : bb = false → Lib.hasPrefix ss [44] = false) :
    LsR d m s bad w w' v mm (Lib.trimPrefix ss [41]) (bb || !Lib.hasPrefix ss [41]) := by
  refine ⟨Nat.le_trans (trim_le _ _) h.len, fun hb => ⟨by rw [(h.bd hb).1]; rfl, (h.bd hb).2⟩, fun hb => ?_⟩
  obtain ⟨h1, h2⟩ := h.ok hb
  refine ⟨h1, ?_⟩
  rcases h2 with ⟨us, hT, rfl, hmm, h32, hspec⟩ | ⟨hno, rfl⟩
  · have hu : moreS (rdS d) (ss.length + 1) ss = if Lib.hasPrefix ss [41] then some ([], Lib.trimPrefix ss [41]) else none := by
      conv => lhs; unfold moreS
      rw [if_neg (by rw [h44 rfl]; simp)]
    rw [hu] at hspec
    cases h41 : Lib.hasPrefix ss [41] with
    | true =>
      rw [h41, if_pos rfl] at hspec
      exact .inl ⟨us, by rw [hspec]; simp, by omega, rfl, hmm, hT.keep hgr.size fun k hk1 hk2 => hgr.block k hk2 (fun e => by injection e with e; omega)⟩
    | false =>
      rw [h41, if_neg (by simp)] at hspec
      exact .inr ⟨(fun ts r hl => by rw [hspec] at hl; cases hl), rfl⟩
  · exact .inr ⟨hno, rfl⟩
/-- A list without parts. -/
theorem LsR.empty {w w' : World} (hm : bad = false → m ≤ 32) (h41 : Lib.hasPrefix (Lib.trimPrefix s [40]) [41] = true) :
    LsR d m s bad w w' (.slice none 0 0) m (Lib.trimPrefix (Lib.trimPrefix s [40]) [41]) (bad || !Lib.hasPrefix s [40]) := by
  refine ⟨Nat.le_trans (trim_le _ _) (trim_le _ _), fun hb => ⟨by rw [hb]; rfl, by omega⟩, fun hb => ?_⟩
  have hm := hm hb
  refine ⟨by omega, ?_⟩
  cases h40 : Lib.hasPrefix s [40] with
  | true => exact .inl ⟨[], by unfold listS; rw [if_pos h40, if_pos h41]; rfl, by simp [V.absL, T.countL]; omega, by rw [hb]; rfl, by simp [V.absL, T.countL], TRow.nil _ _ _⟩
  | false => exact .inr ⟨(fun ts r hl => by unfold listS at hl; rw [h40] at hl; cases hl), by simp⟩
end

end Go.Proofs.YtbcadnkdehknoaaGreatDoor
