/-
  Layer 4: what a right predicate asks: the document's asks.
-/
import Derived.Test.YtpbmgbeiieapiaaGreatDoorTpr
import Derived.Deep.QuietTactic
import Derived.BigQuiet
namespace Go.Proofs.YtpbmgbeiieapiaaGreatDoor
open Go Go.RowKit
set_option linter.unusedVariables false

/-- What a node asks, when so many of its parts hold. -/
def askN (k : Int) (a b many n x y : Nat) : Bool :=
  if k = 1 then true else if k = 2 then decide (x ≤ a) else if k = 3 then decide (y ≤ a) else if k = 4 then decide (y % a = b) else if k = 5 then decide (many = 0) else if k = 6 then decide (many = n) else decide (0 < many)
mutual
def T.askB (x y : Nat) : T → Bool
  | .node k a b ps => askN k a b (T.manyL x y ps) ps.length x y
def T.manyL (x y : Nat) : List T → Nat
  | [] => 0
  | p :: ps => (if p.askB x y then 1 else 0) + T.manyL x y ps
end
theorem manyL_append (x y : Nat) : ∀ (xs ys : List T), T.manyL x y (xs ++ ys) = T.manyL x y xs + T.manyL x y ys
  | [], ys => by simp [T.manyL]
  | t :: xs, ys => by rw [List.cons_append, T.manyL, T.manyL, manyL_append x y xs ys]; omega
theorem manyL_take {x y : Nat} {ps : List V} {i : Nat} {p : V} (h : ps[i]? = some p) : T.manyL x y (V.absL (ps.take (i + 1))) = T.manyL x y (V.absL (ps.take i)) + (if p.abs.askB x y then 1 else 0) := by
  rw [absL_take h, manyL_append]; simp [T.manyL]
theorem V.ask_node (x y : Nat) (k : Int) (a b : Nat) (A : Option Addr) (c : Nat) (ps : List V) : (V.node k a b A c ps).abs.askB x y = askN k a b (T.manyL x y (V.absL ps)) ps.length x y := by rw [V.abs, T.askB, absL_length]
theorem allB_part {k : Int} {a b c : Nat} {A : Option Addr} {ps : List V} {i : Nat} {p : V} (h : (V.node k a b A c ps).abs.allB = true) (hp : ps[i]? = some p) : p.abs.allB = true := by
  cases hb : p.abs.allB with
  | true => rfl
  | false => rw [V.all_node, allL_bad hp hb] at h; cases h
theorem allB_kind {k : Int} {a b c : Nat} {A : Option Addr} {ps : List V} (h : (V.node k a b A c ps).abs.allB = true) : fitsB k a b ps.length = true ∧ 1 ≤ k ∧ k ≤ 7 := by
  rw [V.all_node, Bool.and_eq_true] at h
  refine ⟨h.2, ?_⟩
  by_cases hk : 1 ≤ k ∧ k ≤ 7
  · exact hk
  · rw [fits_no hk] at h; cases h.2

set_option maxRecDepth 100000 in
set_option maxHeartbeats 1600000 in
theorem rasks_any (x y : Nat) (hx : x < 18446744073709551616) (hy : y < 18446744073709551616) : ∀ (v : V) (w : World) (lo hi : Nat), Lies w lo hi v → hi ≤ w.heap.size → v.abs.allB = true → v.abs.count ≤ 1000 →
    Calls Tryz.prog 47 #[v.val, .int .u64 (x : Int), .int .u64 (y : Int)] w fun e w' => e = .returned (.bool (v.abs.askB x y)) ∧ Below w.heap.size w w' := by
  have HXY := Lib_hid (And.intro hx hy)
  clear hx hy
  refine V.ind fun k a b A c ps ih w lo hi hL hhi hal hct => ?_
  obtain ⟨hlen, hcap', -, -, -⟩ := hL.caps
  obtain ⟨hfit, hk1, hk7⟩ := allB_kind hal
  have hlc : ps.length ≤ 1000 := by
    rw [V.count_node] at hct
    have := length_le_countL (V.absL ps)
    rw [absL_length] at this
    omega
  have HL : Hid (∀ W, Below w.heap.size w W → Lies W lo hi (V.node k a b A c ps)) := fun W hW => hL.under (hW.mono hhi)
  have HP : Hid (∀ (i : Nat) (p : V), ps[i]? = some p → p.abs.allB = true ∧ p.abs.count ≤ 1000) := fun i p hp => ⟨allB_part hal hp, (hL.small hct hp).1⟩
  have IH : Hid (∀ p ∈ ps, ∀ (W : World), Lies W lo hi p → hi ≤ W.heap.size → p.abs.allB = true → p.abs.count ≤ 1000 → Calls Tryz.prog 47 #[p.val, .int .u64 (x : Int), .int .u64 (y : Int)] W fun e w' => e = .returned (.bool (p.abs.askB x y)) ∧ Below W.heap.size W w') := fun p hp W h2 h3 h4 h5 => ih p hp W lo hi h2 h3 h4 h5
  have hbx := heap_alloc_new w (.cells #[.int .i64 k, .int .u64 (a : Int), .int .u64 (b : Int), .slice A ps.length c] 30)
  have hb0 := below_new w (.cells #[.int .i64 k, .int .u64 (a : Int), .int .u64 (b : Int), .slice A ps.length c] 30)
  rw [V.ask_node]
  have HF := Lib_hid hfit
  clear ih hL hal hct hfit
  simp only [V.val, V.kind, V.a, V.b, V.sl, V.addr, V.parts, V.cap]
  go_enter Tryz.func47, Tryz.ntmps47
  go_wp2
  go_loopw [7, 8] (fun z u wr => ∃ (m i : Nat), z = .int .i64 m ∧ u = .int .i64 i ∧ i ≤ ps.length ∧ m ≤ i ∧ Hid (m = T.manyL x y (V.absL (ps.take i))) ∧ wr.heap[w.heap.size]? = some (.cells #[.int .i64 k, .int .u64 (a : Int), .int .u64 (b : Int), .slice A ps.length c] 30 (0, 0)) ∧ Below w.heap.size w wr) (fun _ u _ => ps.length - (intOf u).toNat)
  case atStart => exact ⟨0, 0, rfl, rfl, Nat.zero_le _, Nat.le_refl _, Lib_hid (by simp [V.absL, T.manyL]), hbx, hb0⟩
  case round =>
    clear hbx hb0
    obtain ⟨m, i, rfl, rfl, hi1, hmi, hme, hbx, hbw⟩ := hrel
    have hgl := (Array.getElem?_eq_some_iff.1 hbx).1
    have c0 : wr.cell? ⟨w.heap.size, 0, none⟩ = some (.int .i64 k) := cell_of_row wr _ 0 _ _ _ hbx
    have c1 : wr.cell? ⟨w.heap.size, 1, none⟩ = some (.int .u64 (a : Int)) := cell_of_row wr _ 1 _ _ _ hbx
    have c2 : wr.cell? ⟨w.heap.size, 2, none⟩ = some (.int .u64 (b : Int)) := cell_of_row wr _ 2 _ _ _ hbx
    have c3 : wr.cell? ⟨w.heap.size, 3, none⟩ = some (.slice A ps.length c) := cell_of_row wr _ 3 _ _ _ hbx
    by_cases hlt : i < ps.length
    · obtain ⟨bb, off, p, rfl, hbB, hlo, hp, hpl, d0, d1, d2, d3⟩ := (HL.out wr hbw).nth hlt
      have hszw := hbw.size
      obtain ⟨hpa, hpc⟩ := HP.out i p hp
      have CH := IH.out p (List.mem_of_getElem? hp) wr hpl (by omega) hpa hpc
      have hmt := manyL_take (x := x) (y := y) hp
      cases hpk : p.abs.askB x y with
      | true =>
        have HN : Hid (m + 1 = T.manyL x y (V.absL (ps.take (i + 1)))) := by unfold Hid; rw [hmt, hpk, ← hme.out]; simp
        rw [hpk] at CH
        cases p with
        | node pk pa pb pA pc pps =>
        simp only [V.val, V.kind, V.a, V.b, V.sl, V.addr, V.parts, V.cap] at CH d0 d1 d2 d3
        clear hpk hmt hme hp hpl hpa hpc
        go_wp2_with fail
        refine CH.mono ?_
        rintro e w1 ⟨rfl, hb1⟩
        have hbx1 := (hb1.block _ hgl).trans hbx
        have hbw1 := hbw.trans (hb1.mono hbw.size)
        clear CH hb1 d0 d1 d2 d3 c0 c1 c2 c3
        go_wp2
        go_roundw
        case rel => exact ⟨m + 1, i + 1, by go_num, by go_num, by omega, by omega, HN, hbx1, hbw1⟩
        case measure => simp [intOf]; omega
      | false =>
        have HN : Hid (m = T.manyL x y (V.absL (ps.take (i + 1)))) := by unfold Hid; rw [hmt, hpk, ← hme.out]; simp
        rw [hpk] at CH
        cases p with
        | node pk pa pb pA pc pps =>
        simp only [V.val, V.kind, V.a, V.b, V.sl, V.addr, V.parts, V.cap] at CH d0 d1 d2 d3
        clear hpk hmt hme hp hpl hpa hpc
        go_wp2_with fail
        refine CH.mono ?_
        rintro e w1 ⟨rfl, hb1⟩
        have hbx1 := (hb1.block _ hgl).trans hbx
        have hbw1 := hbw.trans (hb1.mono hbw.size)
        clear CH hb1 d0 d1 d2 d3 c0 c1 c2 c3
        go_wp2
        go_roundw
        case rel => exact ⟨m, i + 1, rfl, by go_num, by omega, by omega, HN, hbx1, hbw1⟩
        case measure => simp [intOf]; omega
    · obtain rfl : i = ps.length := by omega
      have HM : Hid (T.manyL x y (V.absL ps) = m) := by have := hme.out; rw [List.take_length] at this; exact this.symm
      have hk : k = 1 ∨ k = 2 ∨ k = 3 ∨ k = 4 ∨ k = 5 ∨ k = 6 ∨ k = 7 := by omega
      clear hme hk1 hk7
      rcases hk with rfl | rfl | rfl | rfl | rfl | rfl | rfl
      · go_wp2
        go_ret
        exact ⟨rfl, hbw⟩
      · go_wp2
        go_ret
        exact ⟨ret_b (by rw [HM.out]; simp [askN]), hbw⟩
      · go_wp2
        go_ret
        exact ⟨ret_b (by rw [HM.out]; simp [askN]), hbw⟩
      · have hfx : b < a := by have := HF.out; unfold fitsB at this; simp at this; exact this.1
        have ha0 : ((a : Int) == 0) = false := by simp; omega
        have hmd : (y : Int).tmod (a : Int) = ((y % a : Nat) : Int) := rfl
        have hy0 : (0 : Int) ≤ (y : Int) := by omega
        go_wp2
        go_quiet (fail)
        go_wp2
        go_ret
        exact ⟨ret_b (by rw [HM.out]; simp [askN]; rw [Bool.eq_iff_iff]; simp; omega), ⟨hbw.os, hbw.tape, hbw.output, hbw.size, hbw.block⟩⟩
      · go_wp2
        go_ret
        exact ⟨ret_b (by rw [HM.out]; simp [askN]; rw [Bool.eq_iff_iff]; simp), hbw⟩
      · go_wp2
        go_ret
        exact ⟨ret_b (by rw [HM.out]; simp [askN]; rw [Bool.eq_iff_iff]; simp; omega), hbw⟩
      · go_wp2
        go_ret
        exact ⟨ret_b (by rw [HM.out]; simp [askN]), hbw⟩

end Go.Proofs.YtpbmgbeiieapiaaGreatDoor
