/-
  Layer 13: the nodes to which edges are: Next of the program.
-/
import Derived.Test.YtopecdkkmbpnbaaGgk
import Derived.Lib.OwnBridge
import Derived.Shelf.Slices.CompactI
namespace Go.Proofs.Ytopecdkkmbpnbaa
open Go Go.RowKit Go.Maps
set_option linter.unusedVariables false

/-- A number put at the end of a row, if it is not what stands there. -/
def putZ (out : List Int) (x : Int) : List Int := if out.getLast? = some x then out else out ++ [x]
def compZ (l : List Int) : List Int := l.foldl putZ []
theorem compZ_snoc (l : List Int) (x : Int) : compZ (l ++ [x]) = putZ (compZ l) x := by simp [compZ, List.foldl_append]
theorem putZ_last (out : List Int) (x : Int) : (putZ out x).getLast? = some x := by
  unfold putZ
  split
  · assumption
  · simp
theorem compZ_last (l : List Int) : (compZ l).getLast? = l.getLast? := by
  rcases List.eq_nil_or_concat l with rfl | ⟨l', x, rfl⟩
  · rfl
  · rw [List.concat_eq_append, compZ_snoc, putZ_last]; simp
theorem compZ_len : ∀ l : List Int, (compZ l).length ≤ l.length := fun l => by
  induction h : l.length generalizing l with
  | zero => have := List.eq_nil_of_length_eq_zero h; subst this; simp [compZ]
  | succ n ih =>
    rcases List.eq_nil_or_concat l with rfl | ⟨l', x, rfl⟩
    · cases h
    · rw [List.concat_eq_append] at h ⊢
      have h1 := ih l' (by simpa using h)
      rw [compZ_snoc]
      unfold putZ
      split
      · omega
      · simp; omega

theorem upTo_prefix (l m : List Int) : ∀ k, k ≤ l.length → Lib.compactUpTo (l ++ m).toArray k = Lib.compactUpTo l.toArray k
  | 0, _ => rfl
  | k + 1, h => by
    rw [Lib.compactUpTo_succ, Lib.compactUpTo_succ, upTo_prefix l m k (by omega)]
    have e : ∀ j, j < l.length → (l ++ m).toArray[j]! = l.toArray[j]! := fun j hj => by
      rw [getElem!_pos _ j (by simp; omega), getElem!_pos _ j (by simpa using hj)]
      simp [List.getElem_append_left hj]
    have e1 : Lib.keeps (l ++ m).toArray k = Lib.keeps l.toArray k := by
      unfold Lib.keeps
      rcases Nat.eq_zero_or_pos k with h0 | h0
      · subst h0; simp
      · rw [e k (by omega), e (k - 1) (by omega)]
    rw [e1, e k (by omega)]
theorem compact_snoc (l : List Int) (x : Int) : Lib.compact (l ++ [x]) = if l.getLast? = some x then Lib.compact l else Lib.compact l ++ [x] := by
  unfold Lib.compact
  rw [List.length_append, List.length_singleton, Lib.compactUpTo_succ, upTo_prefix l [x] l.length (Nat.le_refl _)]
  have e : (l ++ [x]).toArray[l.length]! = x := by
    rw [getElem!_pos _ _ (by simp)]
    simp
  rw [e]
  rcases List.eq_nil_or_concat l with rfl | ⟨l', y, rfl⟩
  · simp [Lib.keeps]
  · rw [List.concat_eq_append]
    have e1 : Lib.keeps (l' ++ [y] ++ [x]).toArray (l' ++ [y]).length = decide (x ≠ y) := by
      unfold Lib.keeps
      rw [List.concat_eq_append] at e
      rw [e]
      have e2 : (l' ++ [y] ++ [x]).toArray[(l' ++ [y]).length - 1]! = y := by
        rw [getElem!_pos _ _ (by simp)]
        simp
      rw [e2]
      simp
    rw [e1]
    by_cases hxy : x = y
    · subst hxy; simp
    · have : ¬ y = x := fun h => hxy h.symm
      simp [hxy, this]
theorem compact_eq (l : List Int) : Lib.compact l = compZ l := by
  induction h : l.length generalizing l with
  | zero => have := List.eq_nil_of_length_eq_zero h; subst this; rfl
  | succ n ih =>
    rcases List.eq_nil_or_concat l with rfl | ⟨l', x, rfl⟩
    · cases h
    · rw [List.concat_eq_append] at h ⊢
      rw [compact_snoc, ih l' (by simpa using h), compZ_snoc]
      unfold putZ
      rw [compZ_last]

/-- A node's next ones. -/
def nextZ (L : List Ed) (n : Int) : List Int := compZ ((outE L n).map fun x => x.2.1)
theorem nextZ_len (L : List Ed) (n : Int) : (nextZ L n).length ≤ L.length := by
  have h1 := compZ_len ((outE L n).map fun x => x.2.1)
  rw [List.length_map] at h1
  exact Nat.le_trans h1 (List.length_filter_le _ _)

/-- The library's Compact of a row of numbers that the call owns. -/
theorem compact_any {w : World} {base n c : Nat} {A : Option Addr} {l : List Int} (h : w.ownsRow base 3 1 (.slice A n c) n (zc l)) (hn : n ≤ 1000000000) :
    Calls Try.prog 56 #[.slice A n c] w fun r w' => r = .returned (.slice A (compZ l).length c) ∧ w'.ownsRow base 3 1 (.slice A (compZ l).length c) (compZ l).length (zc (compZ l)) ∧ Below base w w' := by
  have hl : l.length = n := by have := h.1; rw [zc_length] at this; omega
  rcases Nat.eq_zero_or_pos n with h0 | h0
  · subst h0
    have hnil : l = [] := List.eq_nil_of_length_eq_zero hl
    subst hnil
    have S := Any.slices_Compact_int_empty Try.compI A c w
    change Calls Try.prog 56 _ _ _ at S
    refine S.mono ?_
    rintro r w' ⟨rfl, rfl⟩
    exact ⟨rfl, h, Below.refl _ _⟩
  · obtain ⟨g, cap, hv⟩ := Joins.ownsRow_form h h0
    simp only [Value.slice.injEq] at hv
    obtain ⟨rfl, _, rfl⟩ := hv
    have hh : w.ownsRow base 3 1 (.slice (some ⟨g, 0, none⟩) n c) n (l.map (Value.int .i64)) := h
    obtain ⟨g', cap', e, hb, hlt, hnc, hcm, _, hH⟩ := Lib.holds_of_ownsRow hh (by simp)
    simp only [Value.slice.injEq, Option.some.injEq, Addr.mk.injEq, and_true, true_and] at e
    obtain ⟨rfl, rfl⟩ := e
    have S := Any.slices_Compact_int Try.compI g 0 c l w hH (by omega) (by omega)
    rw [compact_eq, hl] at S
    change Calls Try.prog 56 _ _ _ at S
    refine S.mono ?_
    rintro r w' ⟨rfl, q, rfl⟩
    have hcl := compZ_len l
    refine ⟨rfl, ?_, Lib.below_putRow (Below.refl _ _) hb⟩
    have := Lib.ownsRow_putRow (k := (compZ l).length) (q := q) (ys := compZ l ++ List.replicate (n - (compZ l).length) 0) hh (by simp; omega) (by omega)
    rw [List.take_left] at this
    exact this

set_option maxRecDepth 100000 in
set_option maxHeartbeats 1600000 in
theorem pnext_any {w : World} {p N : Nat} {S : Nat → Prop} {L : List Ed} (h : GmIs w p S N L) (hN : N ≤ 65536) (hL : L.length ≤ 1000000) (n : Int) :
    Calls Try.prog 37 #[.pointer (some ⟨p, 0, none⟩), .int .i64 n] w (MadeC 3 1 (nextZ L n).length (zc (nextZ L n)) w) := by
  have OU := Lib_hid (pout_any h hN (by omega) n)
  obtain ⟨i0, hi, hz0, hz1, hz2⟩ := info_parts Try.infoI
  have hlo : (outE L n).length ≤ L.length := List.length_filter_le _ _
  have hb : (outE L n).length ≤ 1000000 := by omega
  clear hlo hL h
  generalize hO : outE L n = O at *
  have HNZ : Hid (nextZ L n = compZ (O.map fun x => x.2.1)) := by rw [← hO]; rfl
  rw [HNZ.out]
  clear hO HNZ
  generalize hm : O.length = m at *
  have HM := Lib_hid hm
  clear hm
  go_enter Try.func37, Try.ntmps37
  go_wp2_with fail
  refine OU.out.mono ?_
  rintro e w1 ⟨A, c, rfl, ho, hbw⟩
  have HI := Lib_hid (fun (W : World) (hW : Below w1.heap.size w1 W) (i : Nat) (hi : i < m) => e_at ((Rd.own ho).below hW) hi)
  have HB := Lib_hid hbw
  clear ho hbw
  go_wp2
  go_loopw [5, 7, 12] (fun l x i wr => ∃ (k c' : Nat) (A' : Option Addr), l = .slice A' k c' ∧ i = .int .i64 k ∧ k ≤ m ∧ wr.ownsRow w1.heap.size 3 1 (.slice A' k c') k (zc ((O.take k).map fun x => x.2.1)) ∧ Below w1.heap.size w1 wr) (fun _ _ i _ => m - (intOf i).toNat)
  case atStart => exact ⟨0, 0, none, rfl, rfl, Nat.zero_le _, own_zero _ _ _ _, Below.refl _ _⟩
  case round =>
    obtain ⟨k, c', A', rfl, rfl, hk, ho, hbw⟩ := hrel
    by_cases hlt : k < m
    · obtain ⟨b, off, rfl, _, c0, c1, c2⟩ := HI.out _ hbw k hlt
      have ht : Hid ((O.take (k + 1)).map (fun x => x.2.1) = (O.take k).map (fun x => x.2.1) ++ [(at3 O k).2.1]) := by unfold Hid; rw [take_snoc3 (by rw [HM.out]; exact hlt), List.map_append]; rfl
      have hm1 : k + 1 ≤ maxLen := by unfold maxLen; omega
      have hm2 : (k + 1) * 8 ≤ 140737488355328 := by omega
      have bA := below_new wr (.cells #[.int .i64 (at3 O k).1, .int .i64 (at3 O k).2.1, .int .i64 (at3 O k).2.2] 39)
      have hb1 := hbw.trans (bA.mono hbw.size)
      have ho1 := own_below (own_below ho bA (own_lt ho)) (below_new (wr.alloc (.cells #[.int .i64 (at3 O k).1, .int .i64 (at3 O k).2.1, .int .i64 (at3 O k).2.2] 39)) (.cells #[.int .i64 (at3 O k).2.1] 3)) (own_lt (own_below ho bA (own_lt ho)))
      have hr1 : Rd ((wr.alloc (.cells #[.int .i64 (at3 O k).1, .int .i64 (at3 O k).2.1, .int .i64 (at3 O k).2.2] 39)).alloc (.cells #[.int .i64 (at3 O k).2.1] 3)) (wr.heap.size + 1 + 1) 1 (some ⟨wr.heap.size + 1, 0, none⟩) 1 (zc [(at3 O k).2.1]) := by
        have := Rd.own (World.ownsRow_lit (base := 0) (e := 3) (size := 1) (wr.alloc (.cells #[.int .i64 (at3 O k).1, .int .i64 (at3 O k).2.1, .int .i64 (at3 O k).2.2] 39)) #[.int .i64 (at3 O k).2.1] 1 (Nat.zero_le _) (by decide) rfl)
        simpa [zc] using this
      have hb2 := hb1.alloc hb1.size (.cells #[.int .i64 (at3 O k).2.1] 3)
      have hbs2 : w1.heap.size ≤ ((wr.alloc (.cells #[.int .i64 (at3 O k).1, .int .i64 (at3 O k).2.1, .int .i64 (at3 O k).2.2] 39)).alloc (.cells #[.int .i64 (at3 O k).2.1] 3)).heap.size := hb2.size
      clear ho bA hb1
      generalize (at3 O k).1 = a1 at *
      generalize (at3 O k).2.1 = a2 at *
      generalize (at3 O k).2.2 = a3 at *
      go_wp2_with (at_builtin; (refine wpList_app rfl _ _ 55 rfl w1.heap.size 3 i0 (.int .i64 0) 1 8 Try.underlying55 hi hz0 hz1 hz2 rfl (by decide) _ k _ rfl ho1 (wr.heap.size + 1 + 1) (some ⟨wr.heap.size + 1, 0, none⟩) 1 1 (zc [a2]) rfl hr1 (zc_one _) hm1 hm2 hbs2 ?_); intro v' w6 hown6 hst; obtain ⟨Aw6, cw6, rfl⟩ := own_form' hown6)
      rw [← zc_append, ← ht.out] at hown6
      have hbw6 := hb2.grown hst.grow hb2.size (own_ge ho1)
      clear ho1 hr1 hst hb2 c0 c1 c2
      go_roundw
      case rel => exact ⟨k + 1, cw6, Aw6, rfl, by go_num, by omega, hown6, hbw6⟩
      case measure => simp [intOf]; omega
    · obtain rfl : k = m := by omega
      rw [show O.take k = O from List.take_of_length_le (by rw [HM.out]; exact Nat.le_refl _)] at ho
      have CO := Lib_hid (compact_any ho (by omega))
      have HBW := Lib_hid hbw
      clear ho hbw
      go_wp2_with fail
      refine CO.out.mono ?_
      rintro e w2 ⟨rfl, ho2, hb2⟩
      have FIN := Lib_hid (And.intro (own_base ho2 (b' := w.heap.size) fun q hq => Nat.le_trans HB.out.size (own_ge ho2 q hq)) (HB.out.trans ((HBW.out.trans hb2).mono HB.out.size)))
      clear ho2 hb2
      go_wp2
      go_ret
      exact ⟨A', c', rfl, FIN.out.1, FIN.out.2⟩

end Go.Proofs.Ytopecdkkmbpnbaa
