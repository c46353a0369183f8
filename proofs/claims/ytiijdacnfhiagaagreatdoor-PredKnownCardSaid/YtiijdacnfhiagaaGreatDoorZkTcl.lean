/-
  Layer 4: what a right predicate asks: the document's asks.
  Layer 4: holds, the program's, with what each kind asks.
  Layer 4: holds and Holds, the program's; the document's Holds.
  Layer 4: Same, the document's.
  Layer 4: Same, the program's, with slices.EqualFunc.
  Layer 4: slices.Clone of parts; copies.
-/
import Derived.Test.YtiijdacnfhiagaaGreatDoorTpr
import Derived.Deep.QuietTactic
import Derived.BigQuiet
import Derived.Deep.RegionHeld3
import Derived.Test.YtiijdacnfhiagaaGreatDoorTsh

namespace Go.Proofs.YtiijdacnfhiagaaGreatDoor
open Go Go.RowKit
set_option linter.unusedVariables false

/-- What a node asks, when so many of its parts hold. -/
def askN (k : Int) (a b many n x y : Nat) : Bool :=
  if k = 1 then true else if k = 2 then decide (x ≤ a) else if k = 3 then decide (y ≤ a) else if k = 4 then decide (y % a = b) else if k = 5 then decide (many = 0) else if k = 6 then decide (many = n) else decide (0 < many)
mutual
def T.askB (x y : Nat) : T → Bool
  | .node k a b ps => askN k a b (T.manyL x y ps) ps.length x y
def T.manyL (x y : Nat) : List T → Nat
  | [] => 0
  | p :: ps => (if p.askB x y then 1 else 0) + T.manyL x y ps
end
theorem manyL_append (x y : Nat) : ∀ (xs ys : List T), T.manyL x y (xs ++ ys) = T.manyL x y xs + T.manyL x y ys
  | [], ys => by simp [T.manyL]
  | t :: xs, ys => by rw [List.cons_append, T.manyL, T.manyL, manyL_append x y xs ys]; omega
theorem manyL_take {x y : Nat} {ps : List V} {i : Nat} {p : V} (h : ps[i]? = some p) : T.manyL x y (V.absL (ps.take (i + 1))) = T.manyL x y (V.absL (ps.take i)) + (if p.abs.askB x y then 1 else 0) := by
  rw [absL_take h, manyL_append]; simp [T.manyL]
theorem V.ask_node (x y : Nat) (k : Int) (a b : Nat) (A : Option Addr) (c : Nat) (ps : List V) : (V.node k a b A c ps).abs.askB x y = askN k a b (T.manyL x y (V.absL ps)) ps.length x y := by rw [V.abs, T.askB, absL_length]
theorem allB_part {k : Int} {a b c : Nat} {A : Option Addr} {ps : List V} {i : Nat} {p : V} (h : (V.node k a b A c ps).abs.allB = true) (hp : ps[i]? = some p) : p.abs.allB = true := by
  cases hb : p.abs.allB with
  | true => rfl
  | false => rw [V.all_node, allL_bad hp hb] at h; cases h
theorem allB_kind {k : Int} {a b c : Nat} {A : Option Addr} {ps : List V} (h : (V.node k a b A c ps).abs.allB = true) : fitsB k a b ps.length = true ∧ 1 ≤ k ∧ k ≤ 7 := by
  rw [V.all_node, Bool.and_eq_true] at h
  refine ⟨h.2, ?_⟩
  by_cases hk : 1 ≤ k ∧ k ≤ 7
  · exact hk
  · rw [fits_no hk] at h; cases h.2

set_option maxRecDepth 100000 in
set_option maxHeartbeats 1600000 in
theorem rasks_any (x y : Nat) (hx : x < 18446744073709551616) (hy : y < 18446744073709551616) : ∀ (v : V) (w : World) (lo hi : Nat), Lies w lo hi v → hi ≤ w.heap.size → v.abs.allB = true → v.abs.count ≤ 1000 →
    Calls Tryz.prog 47 #[v.val, .int .u64 (x : Int), .int .u64 (y : Int)] w fun e w' => e = .returned (.bool (v.abs.askB x y)) ∧ Below w.heap.size w w' := by
  have HXY := Lib_hid (And.intro hx hy)
  clear hx hy
  refine V.ind fun k a b A c ps ih w lo hi hL hhi hal hct => ?_
  obtain ⟨hlen, hcap', -, -, -⟩ := hL.caps
  obtain ⟨hfit, hk1, hk7⟩ := allB_kind hal
  have hlc : ps.length ≤ 1000 := by
    rw [V.count_node] at hct
    have := length_le_countL (V.absL ps)
    rw [absL_length] at this
    omega
  have HL : Hid (∀ W, Below w.heap.size w W → Lies W lo hi (V.node k a b A c ps)) := fun W hW => hL.under (hW.mono hhi)
  have HP : Hid (∀ (i : Nat) (p : V), ps[i]? = some p → p.abs.allB = true ∧ p.abs.count ≤ 1000) := fun i p hp => ⟨allB_part hal hp, (hL.small hct hp).1⟩
  have IH : Hid (∀ p ∈ ps, ∀ (W : World), Lies W lo hi p → hi ≤ W.heap.size → p.abs.allB = true → p.abs.count ≤ 1000 → Calls Tryz.prog 47 #[p.val, .int .u64 (x : Int), .int .u64 (y : Int)] W fun e w' => e = .returned (.bool (p.abs.askB x y)) ∧ Below W.heap.size W w') := fun p hp W h2 h3 h4 h5 => ih p hp W lo hi h2 h3 h4 h5
  have hbx := heap_alloc_new w (.cells #[.int .i64 k, .int .u64 (a : Int), .int .u64 (b : Int), .slice A ps.length c] 30)
  have hb0 := below_new w (.cells #[.int .i64 k, .int .u64 (a : Int), .int .u64 (b : Int), .slice A ps.length c] 30)
  rw [V.ask_node]
  have HF := Lib_hid hfit
  clear ih hL hal hct hfit
  simp only [V.val, V.kind, V.a, V.b, V.sl, V.addr, V.parts, V.cap]
  go_enter Tryz.func47, Tryz.ntmps47
  go_wp2
  go_loopw [7, 8] (fun z u wr => ∃ (m i : Nat), z = .int .i64 m ∧ u = .int .i64 i ∧ i ≤ ps.length ∧ m ≤ i ∧ Hid (m = T.manyL x y (V.absL (ps.take i))) ∧ wr.heap[w.heap.size]? = some (.cells #[.int .i64 k, .int .u64 (a : Int), .int .u64 (b : Int), .slice A ps.length c] 30 (0, 0)) ∧ Below w.heap.size w wr) (fun _ u _ => ps.length - (intOf u).toNat)
  case atStart => exact ⟨0, 0, rfl, rfl, Nat.zero_le _, Nat.le_refl _, Lib_hid (by simp [V.absL, T.manyL]), hbx, hb0⟩
  case round =>
    clear hbx hb0
    obtain ⟨m, i, rfl, rfl, hi1, hmi, hme, hbx, hbw⟩ := hrel
    have hgl := (Array.getElem?_eq_some_iff.1 hbx).1
    have c0 : wr.cell? ⟨w.heap.size, 0, none⟩ = some (.int .i64 k) := cell_of_row wr _ 0 _ _ _ hbx
    have c1 : wr.cell? ⟨w.heap.size, 1, none⟩ = some (.int .u64 (a : Int)) := cell_of_row wr _ 1 _ _ _ hbx
    have c2 : wr.cell? ⟨w.heap.size, 2, none⟩ = some (.int .u64 (b : Int)) := cell_of_row wr _ 2 _ _ _ hbx
    have c3 : wr.cell? ⟨w.heap.size, 3, none⟩ = some (.slice A ps.length c) := cell_of_row wr _ 3 _ _ _ hbx
    by_cases hlt : i < ps.length
    · obtain ⟨bb, off, p, rfl, hbB, hlo, hp, hpl, d0, d1, d2, d3⟩ := (HL.out wr hbw).nth hlt
      have hszw := hbw.size
      obtain ⟨hpa, hpc⟩ := HP.out i p hp
      have CH := IH.out p (List.mem_of_getElem? hp) wr hpl (by omega) hpa hpc
      have hmt := manyL_take (x := x) (y := y) hp
      cases hpk : p.abs.askB x y with
      | true =>
        have HN : Hid (m + 1 = T.manyL x y (V.absL (ps.take (i + 1)))) := by unfold Hid; rw [hmt, hpk, ← hme.out]; simp
        rw [hpk] at CH
        cases p with
        | node pk pa pb pA pc pps =>
        simp only [V.val, V.kind, V.a, V.b, V.sl, V.addr, V.parts, V.cap] at CH d0 d1 d2 d3
        clear hpk hmt hme hp hpl hpa hpc
        go_wp2_with fail
        refine CH.mono ?_
        rintro e w1 ⟨rfl, hb1⟩
        have hbx1 := (hb1.block _ hgl).trans hbx
        have hbw1 := hbw.trans (hb1.mono hbw.size)
        clear CH hb1 d0 d1 d2 d3 c0 c1 c2 c3
        go_wp2
        go_roundw
        case rel => exact ⟨m + 1, i + 1, by go_num, by go_num, by omega, by omega, HN, hbx1, hbw1⟩
        case measure => simp [intOf]; omega
      | false =>
        have HN : Hid (m = T.manyL x y (V.absL (ps.take (i + 1)))) := by unfold Hid; rw [hmt, hpk, ← hme.out]; simp
        rw [hpk] at CH
        cases p with
        | node pk pa pb pA pc pps =>
        simp only [V.val, V.kind, V.a, V.b, V.sl, V.addr, V.parts, V.cap] at CH d0 d1 d2 d3
        clear hpk hmt hme hp hpl hpa hpc
        go_wp2_with fail
        refine CH.mono ?_
        rintro e w1 ⟨rfl, hb1⟩
        have hbx1 := (hb1.block _ hgl).trans hbx
        have hbw1 := hbw.trans (hb1.mono hbw.size)
        clear CH hb1 d0 d1 d2 d3 c0 c1 c2 c3
        go_wp2
        go_roundw
        case rel => exact ⟨m, i + 1, rfl, by go_num, by omega, by omega, HN, hbx1, hbw1⟩
        case measure => simp [intOf]; omega
    · obtain rfl : i = ps.length := by omega
      have HM : Hid (T.manyL x y (V.absL ps) = m) := by have := hme.out; rw [List.take_length] at this; exact this.symm
      have hk : k = 1 ∨ k = 2 ∨ k = 3 ∨ k = 4 ∨ k = 5 ∨ k = 6 ∨ k = 7 := by omega
      clear hme hk1 hk7
      rcases hk with rfl | rfl | rfl | rfl | rfl | rfl | rfl
      · go_wp2
        go_ret
        exact ⟨rfl, hbw⟩
      · go_wp2
        go_ret
        exact ⟨ret_b (by rw [HM.out]; simp [askN]), hbw⟩
      · go_wp2
        go_ret
        exact ⟨ret_b (by rw [HM.out]; simp [askN]), hbw⟩
      · have hfx : b < a := by have := HF.out; unfold fitsB at this; simp at this; exact this.1
        have ha0 : ((a : Int) == 0) = false := by simp; omega
        have hmd : (y : Int).tmod (a : Int) = ((y % a : Nat) : Int) := rfl
        have hy0 : (0 : Int) ≤ (y : Int) := by omega
        go_wp2
        go_quiet (fail)
        go_wp2
        go_ret
        exact ⟨ret_b (by rw [HM.out]; simp [askN]; rw [Bool.eq_iff_iff]; simp; omega), ⟨hbw.os, hbw.tape, hbw.output, hbw.size, hbw.block⟩⟩
      · go_wp2
        go_ret
        exact ⟨ret_b (by rw [HM.out]; simp [askN]; rw [Bool.eq_iff_iff]; simp), hbw⟩
      · go_wp2
        go_ret
        exact ⟨ret_b (by rw [HM.out]; simp [askN]; rw [Bool.eq_iff_iff]; simp; omega), hbw⟩
      · go_wp2
        go_ret
        exact ⟨ret_b (by rw [HM.out]; simp [askN]), hbw⟩

end Go.Proofs.YtiijdacnfhiagaaGreatDoor

namespace Go.Proofs.YtiijdacnfhiagaaGreatDoor
open Go Go.RowKit
set_option linter.unusedVariables false

theorem manyL_split {x y : Nat} (ps : List V) (i : Nat) : T.manyL x y (V.absL ps) = T.manyL x y (V.absL (ps.take i)) + T.manyL x y (V.absL (ps.drop i)) := by
  conv => lhs; rw [← List.take_append_drop i ps]
  rw [absL_map, List.map_append, manyL_append, ← absL_map, ← absL_map]
theorem manyL_le {x y : Nat} : ∀ ts : List T, T.manyL x y ts ≤ ts.length
  | [] => by simp [T.manyL]
  | t :: ts => by rw [T.manyL, List.length_cons]; have := manyL_le (x := x) (y := y) ts; split <;> omega
theorem manyL_lt {x y : Nat} {ps : List V} {i : Nat} {p : V} (h : ps[i]? = some p) (hf : p.abs.askB x y = false) : T.manyL x y (V.absL ps) < ps.length := by
  have h1 := manyL_split (x := x) (y := y) ps (i + 1)
  rw [manyL_take h, hf] at h1
  have h2 := manyL_le (x := x) (y := y) (V.absL (ps.take i))
  have h3 := manyL_le (x := x) (y := y) (V.absL (ps.drop (i + 1)))
  have hi := (List.getElem?_eq_some_iff.1 h).1
  rw [absL_length] at h2 h3
  rw [List.length_take] at h2
  rw [List.length_drop] at h3
  simp at h1
  omega
theorem manyL_pos {x y : Nat} {ps : List V} {i : Nat} {p : V} (h : ps[i]? = some p) (hf : p.abs.askB x y = true) : 0 < T.manyL x y (V.absL ps) := by
  have h1 := manyL_split (x := x) (y := y) ps (i + 1)
  rw [manyL_take h, hf] at h1
  simp at h1
  omega

/-- The parts are asked as they should be. -/
def HoldsC (x y lo hi : Nat) (ps : List V) : Prop := ∀ p ∈ ps, ∀ (W : World), Lies W lo hi p → hi ≤ W.heap.size → Calls Tryz.prog 46 #[p.val, .int .u64 (x : Int), .int .u64 (y : Int)] W fun e w' => e = .returned (.bool (p.abs.askB x y)) ∧ Below W.heap.size W w'

set_option maxRecDepth 100000 in
set_option maxHeartbeats 1600000 in
theorem asks_any (x y : Nat) (hx : x < 18446744073709551616) (hy : y < 18446744073709551616) (k : Int) (a b c lo hi : Nat) (A : Option Addr) (ps : List V) (w : World) (hL : Lies w lo hi (.node k a b A c ps)) (hhi : hi ≤ w.heap.size) (hfit : fitsB k a b ps.length = true) (hk : 1 ≤ k ∧ k ≤ 7) (hC : HoldsC x y lo hi ps) :
    Calls Tryz.prog (askF k) #[.agg #[.int .i64 k, .int .u64 (a : Int), .int .u64 (b : Int), .slice A ps.length c], .int .u64 (x : Int), .int .u64 (y : Int)] w fun e w' => e = .returned (.bool (askN k a b (T.manyL x y (V.absL ps)) ps.length x y)) ∧ Below w.heap.size w w' := by
  obtain ⟨hlen, hcap', -, -, -⟩ := hL.caps
  have HL : Hid (∀ W, Below w.heap.size w W → Lies W lo hi (V.node k a b A c ps)) := fun W hW => hL.under (hW.mono hhi)
  have IH := Lib_hid hC
  have HXY := Lib_hid (And.intro hx hy)
  have hbx := heap_alloc_new w (.cells #[.int .i64 k, .int .u64 (a : Int), .int .u64 (b : Int), .slice A ps.length c] 25)
  have hb0 := below_new w (.cells #[.int .i64 k, .int .u64 (a : Int), .int .u64 (b : Int), .slice A ps.length c] 25)
  have HF := Lib_hid hfit
  clear hL hC hx hy hfit
  have hk' : k = 1 ∨ k = 2 ∨ k = 3 ∨ k = 4 ∨ k = 5 ∨ k = 6 ∨ k = 7 := by omega
  clear hk
  rcases hk' with rfl | rfl | rfl | rfl | rfl | rfl | rfl
  · show Calls Tryz.prog 88 _ _ _
    clear hbx
    go_enter Tryz.func88, Tryz.ntmps88
    go_wp2
    go_ret
    exact ⟨rfl, hb0⟩
  · show Calls Tryz.prog 91 _ _ _
    clear hbx
    go_enter Tryz.func91, Tryz.ntmps91
    go_wp2
    go_ret
    exact ⟨ret_b (by simp [askN]), hb0⟩
  · show Calls Tryz.prog 92 _ _ _
    clear hbx
    go_enter Tryz.func92, Tryz.ntmps92
    go_wp2
    go_ret
    exact ⟨ret_b (by simp [askN]), hb0⟩
  · show Calls Tryz.prog 95 _ _ _
    have hfx : b < a := by have := HF.out; unfold fitsB at this; simp at this; exact this.1
    have ha0 : ((a : Int) == 0) = false := by simp; omega
    have hy0 : (0 : Int) ≤ (y : Int) := by omega
    have c1 := cell_of_row _ _ 1 _ _ _ hbx
    have c2 := cell_of_row _ _ 2 _ _ _ hbx
    clear hbx
    go_enter Tryz.func95, Tryz.ntmps95
    go_wp2
    try go_quiet (fail)
    try go_wp2
    go_ret
    exact ⟨ret_b (by simp [askN]; rw [Bool.eq_iff_iff]; simp; omega), ⟨hb0.os, hb0.tape, hb0.output, hb0.size, hb0.block⟩⟩
  · show Calls Tryz.prog 97 _ _ _
    have hl1 : ps.length = 1 := by have := HF.out; unfold fitsB at this; simp at this; exact this.2.2
    obtain ⟨bb, off, p, rfl, hbB, hlo, hp, hpl, d0, d1, d2, d3⟩ := (HL.out _ hb0).nth (i := 0) (by omega)
    have CH := IH.out p (List.mem_of_getElem? hp) _ hpl (by have := hb0.size; omega)
    have HM : Hid (T.manyL x y (V.absL ps) = if p.abs.askB x y then 1 else 0) := by
      have h1 := manyL_split (x := x) (y := y) ps 1
      rw [manyL_take (i := 0) hp, List.drop_of_length_le (by omega)] at h1
      unfold Hid
      simpa [V.absL, T.manyL] using h1
    obtain ⟨r, hr⟩ : ∃ r, r = p.abs.askB x y := ⟨_, rfl⟩
    rw [← hr] at CH HM
    cases p with
    | node pk pa pb pA pc pps =>
    simp only [V.val, V.kind, V.a, V.b, V.sl, V.addr, V.parts, V.cap, Nat.zero_mul, Nat.add_zero] at CH d0 d1 d2 d3
    have HLN := Lib_hid hl1
    have hl0 : 0 < ps.length := by omega
    clear hr hp hpl hbx hl1
    go_enter Tryz.func97, Tryz.ntmps97
    go_wp2_with fail
    refine CH.mono ?_
    rintro e w1 ⟨rfl, hb1⟩
    have hbw1 := hb0.trans (hb1.mono hb0.size)
    clear CH hb1 d0 d1 d2 d3
    go_wp2
    go_ret
    exact ⟨ret_b (by rw [HM.out]; cases r <;> simp [askN]), hbw1⟩
  · show Calls Tryz.prog 99 _ _ _
    clear hbx
    go_enter Tryz.func99, Tryz.ntmps99
    go_wp2
    go_loopw [12] (fun u wr => ∃ (i : Nat), u = .int .i64 i ∧ i ≤ ps.length ∧ Hid (T.manyL x y (V.absL (ps.take i)) = i) ∧ Below w.heap.size w wr) (fun u _ => ps.length - (intOf u).toNat)
    case atStart => exact ⟨0, rfl, Nat.zero_le _, Lib_hid (by simp [V.absL, T.manyL]), hb0⟩
    case round =>
      clear hb0
      obtain ⟨i, rfl, hi1, hme, hbw⟩ := hrel
      by_cases hlt : i < ps.length
      · obtain ⟨bb, off, p, rfl, hbB, hlo, hp, hpl, d0, d1, d2, d3⟩ := (HL.out wr hbw).nth hlt
        have hszw := hbw.size
        have CH := IH.out p (List.mem_of_getElem? hp) (wr.alloc (.cells #[.int .i64 p.kind, .int .u64 (p.a : Int), .int .u64 (p.b : Int), p.sl] 25)) (hpl.under ((below_new wr _).mono (by omega))) (by simp; omega)
        have hmt := manyL_take (x := x) (y := y) hp
        have hbA := hbw.alloc hbw.size (.cells #[.int .i64 p.kind, .int .u64 (p.a : Int), .int .u64 (p.b : Int), p.sl] 25)
        cases hpk : p.abs.askB x y with
        | true =>
          have HN : Hid (T.manyL x y (V.absL (ps.take (i + 1))) = i + 1) := by unfold Hid; rw [hmt, hpk, hme.out]; simp
          rw [hpk] at CH
          cases p with
          | node pk pa pb pA pc pps =>
          simp only [V.val, V.kind, V.a, V.b, V.sl, V.addr, V.parts, V.cap] at CH d0 d1 d2 d3 hbA
          clear hpk hmt hme hp hpl
          go_wp2_with fail
          refine CH.mono ?_
          rintro e w1 ⟨rfl, hb1⟩
          have hbw1 := hbA.trans (hb1.mono hbA.size)
          clear CH hb1 d0 d1 d2 d3 hbA
          go_wp2
          go_roundw
          case rel => exact ⟨i + 1, by go_num, by omega, HN, hbw1⟩
          case measure => simp [intOf]; omega
        | false =>
          have HN : Hid (¬ T.manyL x y (V.absL ps) = ps.length) := by unfold Hid; have := manyL_lt hp hpk; omega
          rw [hpk] at CH
          cases p with
          | node pk pa pb pA pc pps =>
          simp only [V.val, V.kind, V.a, V.b, V.sl, V.addr, V.parts, V.cap] at CH d0 d1 d2 d3 hbA
          clear hpk hmt hme hp hpl
          go_wp2_with fail
          refine CH.mono ?_
          rintro e w1 ⟨rfl, hb1⟩
          have hbw1 := hbA.trans (hb1.mono hbA.size)
          clear CH hb1 d0 d1 d2 d3 hbA
          go_wp2
          go_ret
          exact ⟨ret_b (by simp [askN, HN.out]), hbw1⟩
      · obtain rfl : i = ps.length := by omega
        have HM : Hid (T.manyL x y (V.absL ps) = ps.length) := by have := hme.out; rwa [List.take_length] at this
        clear hme
        go_wp2
        go_ret
        exact ⟨ret_b (by simp [askN, HM.out]), hbw⟩
  · show Calls Tryz.prog 100 _ _ _
    clear hbx
    go_enter Tryz.func100, Tryz.ntmps100
    go_wp2
    go_loopw [12] (fun u wr => ∃ (i : Nat), u = .int .i64 i ∧ i ≤ ps.length ∧ Hid (T.manyL x y (V.absL (ps.take i)) = 0) ∧ Below w.heap.size w wr) (fun u _ => ps.length - (intOf u).toNat)
    case atStart => exact ⟨0, rfl, Nat.zero_le _, Lib_hid (by simp [V.absL, T.manyL]), hb0⟩
    case round =>
      clear hb0
      obtain ⟨i, rfl, hi1, hme, hbw⟩ := hrel
      by_cases hlt : i < ps.length
      · obtain ⟨bb, off, p, rfl, hbB, hlo, hp, hpl, d0, d1, d2, d3⟩ := (HL.out wr hbw).nth hlt
        have hszw := hbw.size
        have CH := IH.out p (List.mem_of_getElem? hp) (wr.alloc (.cells #[.int .i64 p.kind, .int .u64 (p.a : Int), .int .u64 (p.b : Int), p.sl] 25)) (hpl.under ((below_new wr _).mono (by omega))) (by simp; omega)
        have hmt := manyL_take (x := x) (y := y) hp
        have hbA := hbw.alloc hbw.size (.cells #[.int .i64 p.kind, .int .u64 (p.a : Int), .int .u64 (p.b : Int), p.sl] 25)
        cases hpk : p.abs.askB x y with
        | false =>
          have HN : Hid (T.manyL x y (V.absL (ps.take (i + 1))) = 0) := by unfold Hid; rw [hmt, hpk, hme.out]; simp
          rw [hpk] at CH
          cases p with
          | node pk pa pb pA pc pps =>
          simp only [V.val, V.kind, V.a, V.b, V.sl, V.addr, V.parts, V.cap] at CH d0 d1 d2 d3 hbA
          clear hpk hmt hme hp hpl
          go_wp2_with fail
          refine CH.mono ?_
          rintro e w1 ⟨rfl, hb1⟩
          have hbw1 := hbA.trans (hb1.mono hbA.size)
          clear CH hb1 d0 d1 d2 d3 hbA
          go_wp2
          go_roundw
          case rel => exact ⟨i + 1, by go_num, by omega, HN, hbw1⟩
          case measure => simp [intOf]; omega
        | true =>
          have HN : Hid (0 < T.manyL x y (V.absL ps)) := Lib_hid (manyL_pos hp hpk)
          rw [hpk] at CH
          cases p with
          | node pk pa pb pA pc pps =>
          simp only [V.val, V.kind, V.a, V.b, V.sl, V.addr, V.parts, V.cap] at CH d0 d1 d2 d3 hbA
          clear hpk hmt hme hp hpl
          go_wp2_with fail
          refine CH.mono ?_
          rintro e w1 ⟨rfl, hb1⟩
          have hbw1 := hbA.trans (hb1.mono hbA.size)
          clear CH hb1 d0 d1 d2 d3 hbA
          go_wp2
          go_ret
          exact ⟨ret_b (by simp [askN, HN.out]), hbw1⟩
      · obtain rfl : i = ps.length := by omega
        have HM : Hid (T.manyL x y (V.absL ps) = 0) := by have := hme.out; rwa [List.take_length] at this
        clear hme
        go_wp2
        go_ret
        exact ⟨ret_b (by simp [askN, HM.out]), hbw⟩

end Go.Proofs.YtiijdacnfhiagaaGreatDoor

namespace Go.Proofs.YtiijdacnfhiagaaGreatDoor
open Go Go.RowKit
set_option linter.unusedVariables false

set_option maxRecDepth 100000 in
set_option maxHeartbeats 1600000 in
theorem pholds_rec (x y : Nat) (hx : x < 18446744073709551616) (hy : y < 18446744073709551616) : ∀ (v : V) (w : World) (lo hi : Nat), Lies w lo hi v → hi ≤ w.heap.size → v.abs.allB = true →
    Calls Tryz.prog 46 #[v.val, .int .u64 (x : Int), .int .u64 (y : Int)] w fun e w' => e = .returned (.bool (v.abs.askB x y)) ∧ Below w.heap.size w w' := by
  have HXY := Lib_hid (And.intro hx hy)
  clear hx hy
  refine V.ind fun k a b A c ps ih w lo hi hL hhi hal => ?_
  obtain ⟨hfit, hk⟩ := allB_kind hal
  have hC : HoldsC x y lo hi ps := fun p hp W h2 h3 => by
    obtain ⟨i, hi1, hpe⟩ := List.mem_iff_getElem.1 hp
    exact ih p hp W lo hi h2 h3 (allB_part hal (i := i) (by rw [List.getElem?_eq_getElem hi1, hpe]))
  have HAS := Lib_hid (fun W (hW : Below w.heap.size w W) => asks_any x y HXY.out.1 HXY.out.2 k a b c lo hi A ps W (hL.under (hW.mono hhi)) (Nat.le_trans hhi hW.size) hfit hk hC)
  have hcf := call_ask hk
  have hbx := heap_alloc_new w (.cells #[.int .i64 k, .int .u64 (a : Int), .int .u64 (b : Int), .slice A ps.length c] 25)
  have hb0 := below_new w (.cells #[.int .i64 k, .int .u64 (a : Int), .int .u64 (b : Int), .slice A ps.length c] 25)
  have KD := kindof_any k (w.alloc (.cells #[.int .i64 k, .int .u64 (a : Int), .int .u64 (b : Int), .slice A ps.length c] 25))
  rw [kindAt_eq hk, show isKind k = true by unfold isKind; exact decide_eq_true hk] at KD
  rw [V.ask_node]
  obtain ⟨r, hr⟩ : ∃ r, r = askN k a b (T.manyL x y (V.absL ps)) ps.length x y := ⟨_, rfl⟩
  rw [← hr] at HAS ⊢
  simp only [V.val, V.kind, V.a, V.b, V.sl, V.addr, V.parts, V.cap]
  generalize wordA k = wd at *
  generalize partN k = pn at *
  generalize numF k = f1 at *
  generalize fitF k = f2 at *
  generalize askF k = f3 at *
  clear ih hL hal hfit hk hC hr
  go_enter Tryz.func46, Tryz.ntmps46
  go_wp2_with fail
  refine KD.mono ?_
  rintro e w1 ⟨rfl, hb1⟩
  have hbw := hb0.trans (hb1.mono hb0.size)
  have hx1 := (hb1.block w.heap.size (by simp)).trans hbx
  have hsz1 : w.heap.size < w1.heap.size := by have := hb1.size; simp at this; omega
  have hb2 := hbw.alloc hbw.size (.cells #[.string ⟨wd⟩, .int .i64 (pn : Nat), .func (.func f1) #[] #[], .func (.func f2) #[] #[], .func (.func f3) #[] #[]] 87)
  have hx2 := (heap_alloc_old w1 (.cells #[.string ⟨wd⟩, .int .i64 (pn : Nat), .func (.func f1) #[] #[], .func (.func f2) #[] #[], .func (.func f3) #[] #[]] 87) hsz1).trans hx1
  have hk2 := heap_alloc_new w1 (.cells #[.string ⟨wd⟩, .int .i64 (pn : Nat), .func (.func f1) #[] #[], .func (.func f2) #[] #[], .func (.func f3) #[] #[]] 87)
  clear KD hb1 hb0 hbx hx1 hbw
  go_upto_region 2 with (fail)
  generalize w1.alloc (.cells #[.string ⟨wd⟩, .int .i64 (pn : Nat), .func (.func f1) #[] #[], .func (.func f2) #[] #[], .func (.func f3) #[] #[]] 87) = w2 at *
  have c0 := cell_of_row w2 _ 0 _ _ _ hx2
  have c1 := cell_of_row w2 _ 1 _ _ _ hx2
  have c2 := cell_of_row w2 _ 2 _ _ _ hx2
  have c3 := cell_of_row w2 _ 3 _ _ _ hx2
  have d4 := cell_of_row w2 _ 4 _ _ _ hk2
  have AS := HAS.out w2 hb2
  clear hx2 hk2
  go_wp2_with fail
  refine AS.mono ?_
  rintro e w3 ⟨rfl, hb3⟩
  have hbw3 := hb2.trans (hb3.mono hb2.size)
  clear AS hb3 c0 c1 c2 c3 d4
  go_wp2
  go_ret
  exact ⟨rfl, hbw3⟩

set_option maxRecDepth 100000 in
set_option maxHeartbeats 800000 in
theorem pholds_any (x y : Nat) (hx : x < 18446744073709551616) (hy : y < 18446744073709551616) (v : V) (w : World) (lo hi : Nat) (hL : Lies w lo hi v) (hhi : hi ≤ w.heap.size) (hct : v.abs.count ≤ 1000) :
    Calls Tryz.prog 26 #[v.val, .int .u64 (x : Int), .int .u64 (y : Int)] w fun e w' => e = .returned (.bool (v.abs.rightB && v.abs.askB x y)) ∧ Below w.heap.size w w' := by
  have RA : Hid (∀ W, Below w.heap.size w W → Calls Tryz.prog 20 #[v.val] W fun e w' => e = .returned (.bool v.abs.rightB) ∧ Below W.heap.size W w') := fun W hW => pright_any v W lo hi (hL.under (hW.mono hhi)) (Nat.le_trans hhi hW.size)
  have HO : Hid (v.abs.rightB = true → ∀ W, Below w.heap.size w W → Calls Tryz.prog 46 #[v.val, .int .u64 (x : Int), .int .u64 (y : Int)] W fun e w' => e = .returned (.bool (v.abs.askB x y)) ∧ Below W.heap.size W w') := fun hr W hW => by
    have hal : v.abs.allB = true := by
      unfold T.rightB at hr
      rw [Bool.and_eq_true, Bool.and_eq_true] at hr
      exact hr.1.1
    exact pholds_rec x y hx hy v W lo hi (hL.under (hW.mono hhi)) (Nat.le_trans hhi hW.size) hal
  obtain ⟨rt, hrt⟩ : ∃ rt, rt = v.abs.rightB := ⟨_, rfl⟩
  obtain ⟨ak, hak⟩ : ∃ ak, ak = v.abs.askB x y := ⟨_, rfl⟩
  rw [← hrt] at RA HO ⊢
  rw [← hak] at HO ⊢
  clear hrt hak hL hx hy
  cases v with
  | node k a b A c ps =>
  simp only [V.val, V.kind, V.a, V.b, V.sl, V.addr, V.parts, V.cap] at RA HO ⊢
  have hb0 := below_new w (.cells #[.int .i64 k, .int .u64 (a : Int), .int .u64 (b : Int), .slice A ps.length c] 25)
  have hbx := heap_alloc_new w (.cells #[.int .i64 k, .int .u64 (a : Int), .int .u64 (b : Int), .slice A ps.length c] 25)
  have R1 := RA.out _ hb0
  clear RA
  go_enter Tryz.func26, Tryz.ntmps26
  go_wp2_with fail
  refine R1.mono ?_
  rintro e w1 ⟨rfl, hb1⟩
  have hx1 := (hb1.block w.heap.size (by simp)).trans hbx
  have hbw1 := hb0.trans (hb1.mono hb0.size)
  clear R1 hb1 hb0 hbx
  cases rt with
  | false =>
    go_wp2
    go_ret
    exact ⟨rfl, hbw1⟩
  | true =>
    have R2 := HO.out rfl w1 hbw1
    have c0 := cell_of_row w1 _ 0 _ _ _ hx1
    have c1 := cell_of_row w1 _ 1 _ _ _ hx1
    have c2 := cell_of_row w1 _ 2 _ _ _ hx1
    have c3 := cell_of_row w1 _ 3 _ _ _ hx1
    clear hx1
    go_wp2_with fail
    refine R2.mono ?_
    rintro e w2 ⟨rfl, hb2⟩
    have hbw2 := hbw1.trans (hb2.mono hbw1.size)
    clear R2 hb2 c0 c1 c2 c3
    go_wp2
    go_ret
    exact ⟨ret_b (by simp), hbw2⟩

set_option maxRecDepth 100000 in
set_option maxHeartbeats 800000 in
theorem rholds_any (x y : Nat) (hx : x < 18446744073709551616) (hy : y < 18446744073709551616) (v : V) (w : World) (lo hi : Nat) (hL : Lies w lo hi v) (hhi : hi ≤ w.heap.size) (hct : v.abs.count ≤ 1000) :
    Calls Tryz.prog 27 #[v.val, .int .u64 (x : Int), .int .u64 (y : Int)] w fun e w' => e = .returned (.bool (v.abs.rightB && v.abs.askB x y)) ∧ Below w.heap.size w w' := by
  have RA : Hid (∀ W, Below w.heap.size w W → Calls Tryz.prog 21 #[v.val] W fun e w' => e = .returned (.bool v.abs.rightB) ∧ Below W.heap.size W w') := fun W hW => rright_any v W lo hi (hL.under (hW.mono hhi)) (Nat.le_trans hhi hW.size) hct
  have HO : Hid (v.abs.rightB = true → ∀ W, Below w.heap.size w W → Calls Tryz.prog 47 #[v.val, .int .u64 (x : Int), .int .u64 (y : Int)] W fun e w' => e = .returned (.bool (v.abs.askB x y)) ∧ Below W.heap.size W w') := fun hr W hW => by
    have hal : v.abs.allB = true := by
      unfold T.rightB at hr
      rw [Bool.and_eq_true, Bool.and_eq_true] at hr
      exact hr.1.1
    exact rasks_any x y hx hy v W lo hi (hL.under (hW.mono hhi)) (Nat.le_trans hhi hW.size) hal hct
  obtain ⟨rt, hrt⟩ : ∃ rt, rt = v.abs.rightB := ⟨_, rfl⟩
  obtain ⟨ak, hak⟩ : ∃ ak, ak = v.abs.askB x y := ⟨_, rfl⟩
  rw [← hrt] at RA HO ⊢
  rw [← hak] at HO ⊢
  clear hrt hak hL hx hy
  cases v with
  | node k a b A c ps =>
  simp only [V.val, V.kind, V.a, V.b, V.sl, V.addr, V.parts, V.cap] at RA HO ⊢
  have hb0 := below_new w (.cells #[.int .i64 k, .int .u64 (a : Int), .int .u64 (b : Int), .slice A ps.length c] 30)
  have hbx := heap_alloc_new w (.cells #[.int .i64 k, .int .u64 (a : Int), .int .u64 (b : Int), .slice A ps.length c] 30)
  have R1 := RA.out _ hb0
  clear RA
  go_enter Tryz.func27, Tryz.ntmps27
  go_wp2_with fail
  refine R1.mono ?_
  rintro e w1 ⟨rfl, hb1⟩
  have hx1 := (hb1.block w.heap.size (by simp)).trans hbx
  have hbw1 := hb0.trans (hb1.mono hb0.size)
  clear R1 hb1 hb0 hbx
  cases rt with
  | false =>
    go_wp2
    go_ret
    exact ⟨rfl, hbw1⟩
  | true =>
    have R2 := HO.out rfl w1 hbw1
    have c0 := cell_of_row w1 _ 0 _ _ _ hx1
    have c1 := cell_of_row w1 _ 1 _ _ _ hx1
    have c2 := cell_of_row w1 _ 2 _ _ _ hx1
    have c3 := cell_of_row w1 _ 3 _ _ _ hx1
    clear hx1
    go_wp2_with fail
    refine R2.mono ?_
    rintro e w2 ⟨rfl, hb2⟩
    have hbw2 := hbw1.trans (hb2.mono hbw1.size)
    clear R2 hb2 c0 c1 c2 c3
    go_wp2
    go_ret
    exact ⟨ret_b (by simp), hbw2⟩

end Go.Proofs.YtiijdacnfhiagaaGreatDoor

namespace Go.Proofs.YtiijdacnfhiagaaGreatDoor
open Go Go.RowKit
set_option linter.unusedVariables false

mutual
def T.sameB : T → T → Bool
  | .node k a b ps, .node k' a' b' qs => decide (k = k' ∧ a = a' ∧ b = b') && T.sameL ps qs
def T.sameL : List T → List T → Bool
  | [], [] => true
  | p :: ps, q :: qs => p.sameB q && T.sameL ps qs
  | _, _ => false
end
theorem sameL_iff : ∀ (ps qs : List T), (∀ p ∈ ps, ∀ q, p.sameB q = true ↔ p = q) → (T.sameL ps qs = true ↔ ps = qs)
  | [], [], _ => by simp [T.sameL]
  | [], q :: qs, _ => by simp [T.sameL]
  | p :: ps, [], _ => by simp [T.sameL]
  | p :: ps, q :: qs, h => by
    rw [T.sameL, Bool.and_eq_true, h p (by simp), sameL_iff ps qs fun x hx => h x (by simp [hx])]
    simp
theorem sameB_iff : ∀ (t s : T), t.sameB s = true ↔ t = s := by
  refine T.ind fun k a b ps ih s => ?_
  cases s with
  | node k' a' b' qs =>
    rw [T.sameB, Bool.and_eq_true, decide_eq_true_iff, sameL_iff ps qs ih]
    simp [T.node.injEq, and_assoc]
theorem sameB_ne {t s : T} (h : t ≠ s) : t.sameB s = false := by
  cases hs : t.sameB s with
  | false => rfl
  | true => exact absurd ((sameB_iff t s).1 hs) h
theorem sameB_self (t : T) : t.sameB t = true := (sameB_iff t t).2 rfl
theorem V.abs_node (k : Int) (a b : Nat) (A : Option Addr) (c : Nat) (ps : List V) : (V.node k a b A c ps).abs = .node k a b (V.absL ps) := by rw [V.abs]
theorem absL_ne {ps qs : List V} {i : Nat} {p q : V} (hp : ps[i]? = some p) (hq : qs[i]? = some q) (h : p.abs ≠ q.abs) : V.absL ps ≠ V.absL qs := by
  intro e
  have := congrArg (fun l : List T => l[i]?) e
  simp only [absL_map, List.getElem?_map, hp, hq, Option.map_some, Option.some.injEq] at this
  exact h this

set_option maxRecDepth 100000 in
set_option maxHeartbeats 1600000 in
theorem rsame_any : ∀ (v u : V) (w : World) (lo hi lo' hi' : Nat), Lies w lo hi v → hi ≤ w.heap.size → Lies w lo' hi' u → hi' ≤ w.heap.size →
    Calls Tryz.prog 16 #[v.val, u.val] w fun e w' => e = .returned (.bool (v.abs.sameB u.abs)) ∧ Below w.heap.size w w' := by
  refine V.ind fun k a b A c ps ih u w lo hi lo' hi' hL hhi hL' hhi' => ?_
  cases u with
  | node k' a' b' A' c' qs =>
  obtain ⟨hlen, hcap', -, -, -⟩ := hL.caps
  obtain ⟨hlen2, hcap2, -, -, -⟩ := hL'.caps
  have HL : Hid (∀ W, Below w.heap.size w W → Lies W lo hi (V.node k a b A c ps) ∧ Lies W lo' hi' (V.node k' a' b' A' c' qs)) := fun W hW => ⟨hL.under (hW.mono hhi), hL'.under (hW.mono hhi')⟩
  have IH : Hid (∀ p ∈ ps, ∀ (u : V) (W : World), Lies W lo hi p → hi ≤ W.heap.size → Lies W lo' hi' u → hi' ≤ W.heap.size → Calls Tryz.prog 16 #[p.val, u.val] W fun e w' => e = .returned (.bool (p.abs.sameB u.abs)) ∧ Below W.heap.size W w') := fun p hp u W h2 h3 h4 h5 => ih p hp u W lo hi lo' hi' h2 h3 h4 h5
  have hb1 := below_new w (.cells #[.int .i64 k, .int .u64 (a : Int), .int .u64 (b : Int), .slice A ps.length c] 30)
  have hbA := hb1.alloc hb1.size (.cells #[.int .i64 k', .int .u64 (a' : Int), .int .u64 (b' : Int), .slice A' qs.length c'] 30)
  have hx1 := (heap_alloc_old (w.alloc (.cells #[.int .i64 k, .int .u64 (a : Int), .int .u64 (b : Int), .slice A ps.length c] 30)) (.cells #[.int .i64 k', .int .u64 (a' : Int), .int .u64 (b' : Int), .slice A' qs.length c'] 30) (by simp : w.heap.size < _)).trans (heap_alloc_new w (.cells #[.int .i64 k, .int .u64 (a : Int), .int .u64 (b : Int), .slice A ps.length c] 30))
  have hx2 := heap_alloc_new (w.alloc (.cells #[.int .i64 k, .int .u64 (a : Int), .int .u64 (b : Int), .slice A ps.length c] 30)) (.cells #[.int .i64 k', .int .u64 (a' : Int), .int .u64 (b' : Int), .slice A' qs.length c'] 30)
  simp only [World.size_alloc] at hx2
  have HE : Hid ((V.node k a b A c ps).abs = .node k a b (V.absL ps) ∧ (V.node k' a' b' A' c' qs).abs = .node k' a' b' (V.absL qs)) := ⟨V.abs_node .., V.abs_node ..⟩
  obtain ⟨r, hr⟩ : ∃ r, r = (V.node k a b A c ps).abs.sameB (V.node k' a' b' A' c' qs).abs := ⟨_, rfl⟩
  rw [← hr]
  have HR : Hid ((k = k' ∧ a = a' ∧ b = b' ∧ V.absL ps = V.absL qs → r = true) ∧ (¬ (k = k' ∧ a = a' ∧ b = b' ∧ V.absL ps = V.absL qs) → r = false)) := by
    rw [HE.out.1, HE.out.2] at hr
    refine ⟨fun ⟨h1, h2, h3, h4⟩ => ?_, fun h => ?_⟩
    · rw [hr, h1, h2, h3, h4, sameB_self]
    · rw [hr]; exact sameB_ne fun e => h (by injection e with e1 e2 e3 e4; exact ⟨e1, e2, e3, e4⟩)
  clear ih hL hL' hr hb1
  simp only [V.val, V.kind, V.a, V.b, V.sl, V.addr, V.parts, V.cap]
  by_cases hkk : k = k'
  · by_cases haa : a = a'
    · by_cases hbb : b = b'
      · by_cases hll : ps.length = qs.length
        · have q1 : (k != k') = false := by simp [hkk]
          have q2 : ((a : Int) != (a' : Int)) = false := by simp [haa]
          have q3 : ((b : Int) != (b' : Int)) = false := by simp [hbb]
          have q4 : ((ps.length : Int) != (qs.length : Int)) = false := by simp [hll]
          have HQ := Lib_hid (And.intro hkk (And.intro haa (And.intro hbb hll)))
          clear hkk haa hbb hll
          go_enter Tryz.func16, Tryz.ntmps16
          go_wp2
          go_loopw [5] (fun z wr => ∃ i : Nat, z = .int .i64 i ∧ i ≤ ps.length ∧ Hid (V.absL (ps.take i) = V.absL (qs.take i)) ∧ wr.heap[w.heap.size]? = some (.cells #[.int .i64 k, .int .u64 (a : Int), .int .u64 (b : Int), .slice A ps.length c] 30 (0, 0)) ∧ wr.heap[w.heap.size + 1]? = some (.cells #[.int .i64 k', .int .u64 (a' : Int), .int .u64 (b' : Int), .slice A' qs.length c'] 30 (0, 0)) ∧ Below w.heap.size w wr) (fun z _ => ps.length - (intOf z).toNat)
          case atStart => exact ⟨0, rfl, Nat.zero_le _, Lib_hid (by simp [V.absL]), hx1, hx2, hbA⟩
          case round =>
            clear hx1 hx2 hbA q1 q2 q3 q4
            obtain ⟨i, rfl, hi1, hme, hx1, hx2, hbw⟩ := hrel
            have hgl := (Array.getElem?_eq_some_iff.1 hx2).1
            have c3 : wr.cell? ⟨w.heap.size, 3, none⟩ = some (.slice A ps.length c) := cell_of_row wr _ 3 _ _ _ hx1
            by_cases hlt : i < ps.length
            · have hlt2 : i < qs.length := by have := HQ.out.2.2.2; omega
              obtain ⟨bb, off, p, rfl, hbB, hlo, hp, hpl, d0, d1, d2, d3⟩ := (HL.out wr hbw).1.nth hlt
              obtain ⟨bb', off', q, rfl, hbB', hlo', hq, hql, f0, f1, f2, f3⟩ := (HL.out wr hbw).2.nth hlt2
              have CHH : Hid (∀ W, Below wr.heap.size wr W → Calls Tryz.prog 16 #[p.val, q.val] W fun e w' => e = .returned (.bool (p.abs.sameB q.abs)) ∧ Below W.heap.size W w') := fun W hW => IH.out p (List.mem_of_getElem? hp) q W (hpl.under (hW.mono (by omega))) (by have := hW.size; omega) (hql.under (hW.mono (by omega))) (by have := hW.size; omega)
              have HPQ := Lib_hid (And.intro hp hq)
              obtain ⟨sr, hsr⟩ : ∃ sr, sr = p.abs.sameB q.abs := ⟨_, rfl⟩
              rw [← hsr] at CHH
              have HN : Hid ((sr = true → V.absL (ps.take (i + 1)) = V.absL (qs.take (i + 1))) ∧ (sr = false → r = false)) := by
                refine ⟨fun h => ?_, fun h => ?_⟩
                · have : p.abs = q.abs := (sameB_iff _ _).1 (hsr.symm.trans h)
                  rw [absL_take hp, absL_take hq, hme.out, this]
                · refine HR.out.2 fun ⟨_, _, _, h4⟩ => absL_ne hp hq (fun e => ?_) h4
                  rw [e, sameB_self] at hsr
                  rw [hsr] at h; cases h
              have S0 : Hid (∀ W : World, Below wr.heap.size wr W → W.cell? ⟨w.heap.size, 3, none⟩ = some (.slice (some ⟨bb, off, none⟩) ps.length c) ∧ W.cell? ⟨w.heap.size + 1, 3, none⟩ = some (.slice (some ⟨bb', off', none⟩) qs.length c') ∧
                  W.cell? ⟨bb, off + i * 4, none⟩ = some (.int .i64 p.kind) ∧ W.cell? ⟨bb, off + i * 4 + 1, none⟩ = some (.int .u64 (p.a : Int)) ∧ W.cell? ⟨bb, off + i * 4 + 2, none⟩ = some (.int .u64 (p.b : Int)) ∧ W.cell? ⟨bb, off + i * 4 + 3, none⟩ = some p.sl ∧
                  W.cell? ⟨bb', off' + i * 4, none⟩ = some (.int .i64 q.kind) ∧ W.cell? ⟨bb', off' + i * 4 + 1, none⟩ = some (.int .u64 (q.a : Int)) ∧ W.cell? ⟨bb', off' + i * 4 + 2, none⟩ = some (.int .u64 (q.b : Int)) ∧ W.cell? ⟨bb', off' + i * 4 + 3, none⟩ = some q.sl) := fun W hW =>
                ⟨(hW.cell (p := ⟨w.heap.size, 3, none⟩) (by show w.heap.size < _; omega)).trans c3, (hW.cell (p := ⟨w.heap.size + 1, 3, none⟩) hgl).trans (cell_of_row wr _ 3 _ _ _ hx2),
                  (hW.cell (p := ⟨bb, off + i * 4, none⟩) (by show bb < _; omega)).trans d0, (hW.cell (p := ⟨bb, off + i * 4 + 1, none⟩) (by show bb < _; omega)).trans d1, (hW.cell (p := ⟨bb, off + i * 4 + 2, none⟩) (by show bb < _; omega)).trans d2, (hW.cell (p := ⟨bb, off + i * 4 + 3, none⟩) (by show bb < _; omega)).trans d3,
                  (hW.cell (p := ⟨bb', off' + i * 4, none⟩) (by show bb' < _; omega)).trans f0, (hW.cell (p := ⟨bb', off' + i * 4 + 1, none⟩) (by show bb' < _; omega)).trans f1, (hW.cell (p := ⟨bb', off' + i * 4 + 2, none⟩) (by show bb' < _; omega)).trans f2, (hW.cell (p := ⟨bb', off' + i * 4 + 3, none⟩) (by show bb' < _; omega)).trans f3⟩
              cases p with
              | node pk pa pb pA pc pps =>
              cases q with
              | node qk qa qb qA qc qqs =>
              simp only [V.val, V.kind, V.a, V.b, V.sl, V.addr, V.parts, V.cap] at CHH S0 d0 d1 d2 d3 f0 f1 f2 f3
              have c4 : wr.cell? ⟨w.heap.size + 1, 3, none⟩ = some (.slice (some ⟨bb', off', none⟩) qs.length c') := cell_of_row wr _ 3 _ _ _ hx2
              have HX := Lib_hid (And.intro hx1 hx2)
              clear hsr hp hq hpl hql hme hx1 hx2
              go_wp2_with fail
              go_region_held3 (fun W => W.cell? ⟨w.heap.size, 3, none⟩ = some (.slice (some ⟨bb, off, none⟩) ps.length c) ∧ W.cell? ⟨w.heap.size + 1, 3, none⟩ = some (.slice (some ⟨bb', off', none⟩) qs.length c') ∧
                  W.cell? ⟨bb, off + i * 4, none⟩ = some (.int .i64 pk) ∧ W.cell? ⟨bb, off + i * 4 + 1, none⟩ = some (.int .u64 (pa : Int)) ∧ W.cell? ⟨bb, off + i * 4 + 2, none⟩ = some (.int .u64 (pb : Int)) ∧ W.cell? ⟨bb, off + i * 4 + 3, none⟩ = some (.slice pA pps.length pc) ∧
                  W.cell? ⟨bb', off' + i * 4, none⟩ = some (.int .i64 qk) ∧ W.cell? ⟨bb', off' + i * 4 + 1, none⟩ = some (.int .u64 (qa : Int)) ∧ W.cell? ⟨bb', off' + i * 4 + 2, none⟩ = some (.int .u64 (qb : Int)) ∧ W.cell? ⟨bb', off' + i * 4 + 3, none⟩ = some (.slice qA qqs.length qc))
                (first | exact S0.out _ ⟨rfl, rfl, rfl, Nat.le_refl _, fun _ _ => rfl⟩ | exact S0.out _ hbs)
                ((go_at_call 16; ((with_reducible refine (CHH.out wr.drew ⟨rfl, rfl, rfl, Nat.le_refl _, fun _ _ => rfl⟩).mono ?_); rintro e ws ⟨rfl, hs'⟩; have hbs : Below wr.heap.size wr ws := ⟨hs'.os, hs'.tape, hs'.output, hs'.size, hs'.block⟩)))
              all_goals
                have hbws := hbw.trans (hbs.mono hbw.size)
                have hx1' := (hbs.block w.heap.size (by omega)).trans HX.out.1
                have hx2' := (hbs.block (w.heap.size + 1) hgl).trans HX.out.2
                clear d0 d1 d2 d3 f0 f1 f2 f3 c3 c4
                cases sr with
                | true =>
                  have HM := Lib_hid (HN.out.1 (by simp))
                  go_wp2
                  go_roundw
                  case rel => exact ⟨i + 1, by go_num, by omega, HM, hx1', hx2', hbws⟩
                  case measure => simp [intOf]; omega
                | false =>
                  have HM := Lib_hid (HN.out.2 (by simp))
                  go_wp2
                  go_ret
                  exact ⟨ret_b HM.out.symm, hbws⟩
            · obtain rfl : i = ps.length := by omega
              have HM : Hid (r = true) := by
                have h := hme.out
                rw [List.take_length, HQ.out.2.2.2, List.take_length] at h
                exact HR.out.1 ⟨HQ.out.1, HQ.out.2.1, HQ.out.2.2.1, h⟩
              clear hme hx1 hx2
              go_wp2
              go_ret
              exact ⟨ret_b HM.out.symm, hbw⟩
        · have HM := Lib_hid (HR.out.2 fun ⟨_, _, _, h4⟩ => hll (by have := congrArg List.length h4; rwa [absL_length, absL_length] at this))
          have q1 : (k != k') = false := by simp [hkk]
          have q2 : ((a : Int) != (a' : Int)) = false := by simp [haa]
          have q3 : ((b : Int) != (b' : Int)) = false := by simp [hbb]
          have q4 : ((ps.length : Int) != (qs.length : Int)) = true := by simp; omega
          clear hkk haa hbb hll hx1 hx2
          go_enter Tryz.func16, Tryz.ntmps16
          go_wp2
          go_ret
          exact ⟨ret_b HM.out.symm, hbA⟩
      · have HM := Lib_hid (HR.out.2 fun ⟨_, _, h3, _⟩ => hbb h3)
        have q1 : (k != k') = false := by simp [hkk]
        have q2 : ((a : Int) != (a' : Int)) = false := by simp [haa]
        have q3 : ((b : Int) != (b' : Int)) = true := by simp; omega
        clear hkk haa hbb hx1 hx2
        go_enter Tryz.func16, Tryz.ntmps16
        go_wp2
        go_ret
        exact ⟨ret_b HM.out.symm, hbA⟩
    · have HM := Lib_hid (HR.out.2 fun ⟨_, h2, _⟩ => haa h2)
      have q1 : (k != k') = false := by simp [hkk]
      have q2 : ((a : Int) != (a' : Int)) = true := by simp; omega
      clear hkk haa hx1 hx2
      go_enter Tryz.func16, Tryz.ntmps16
      go_wp2
      go_ret
      exact ⟨ret_b HM.out.symm, hbA⟩
  · have HM := Lib_hid (HR.out.2 fun ⟨h1, _⟩ => hkk h1)
    have q1 : (k != k') = true := by simp [hkk]
    clear hkk hx1 hx2
    go_enter Tryz.func16, Tryz.ntmps16
    go_wp2
    go_ret
    exact ⟨ret_b HM.out.symm, hbA⟩

end Go.Proofs.YtiijdacnfhiagaaGreatDoor

namespace Go.Proofs.YtiijdacnfhiagaaGreatDoor
open Go Go.RowKit
set_option linter.unusedVariables false

/-- The parts are held against others as they should be. -/
def SameC (lo hi lo' hi' : Nat) (ps : List V) : Prop := ∀ p ∈ ps, ∀ (u : V) (W : World), Lies W lo hi p → hi ≤ W.heap.size → Lies W lo' hi' u → hi' ≤ W.heap.size → Calls Tryz.prog 30 #[p.val, u.val] W fun e w' => e = .returned (.bool (p.abs.sameB u.abs)) ∧ Below W.heap.size W w'

set_option maxRecDepth 100000 in
set_option maxHeartbeats 1600000 in
theorem eqf_any (k k' : Int) (a b a' b' c c' lo hi lo' hi' : Nat) (A A' : Option Addr) (ps qs : List V) (w : World) (hL : Lies w lo hi (.node k a b A c ps)) (hhi : hi ≤ w.heap.size) (hL' : Lies w lo' hi' (.node k' a' b' A' c' qs)) (hhi' : hi' ≤ w.heap.size) (hC : SameC lo hi lo' hi' ps) :
    Calls Tryz.prog 50 #[.slice A ps.length c, .slice A' qs.length c', .func (.func 30) #[] #[]] w fun e w' => ∃ r, e = .returned (.bool r) ∧ (r = true ↔ V.absL ps = V.absL qs) ∧ Below w.heap.size w w' := by
  obtain ⟨hlen, hcap', -, -, -⟩ := hL.caps
  obtain ⟨hlen2, hcap2, -, -, -⟩ := hL'.caps
  have HL : Hid (∀ W, Below w.heap.size w W → Lies W lo hi (V.node k a b A c ps) ∧ Lies W lo' hi' (V.node k' a' b' A' c' qs)) := fun W hW => ⟨hL.under (hW.mono hhi), hL'.under (hW.mono hhi')⟩
  have IH := Lib_hid hC
  clear hL hL' hC
  by_cases hll : ps.length = qs.length
  · have q4 : ((ps.length : Int) != (qs.length : Int)) = false := by simp [hll]
    have HQ := Lib_hid hll
    clear hll
    go_enter Tryz.func50, Tryz.ntmps50
    go_wp2
    go_loopw [17] (fun z wr => ∃ i : Nat, z = .int .i64 i ∧ i ≤ ps.length ∧ Hid (V.absL (ps.take i) = V.absL (qs.take i)) ∧ Below w.heap.size w wr) (fun z _ => ps.length - (intOf z).toNat)
    case atStart => exact ⟨0, rfl, Nat.zero_le _, Lib_hid (by simp [V.absL]), Below.refl _ _⟩
    case round =>
      clear q4
      obtain ⟨i, rfl, hi1, hme, hbw⟩ := hrel
      by_cases hlt : i < ps.length
      · have hlt2 : i < qs.length := by have := HQ.out; omega
        obtain ⟨bb, off, p, rfl, hbB, hlo, hp, hpl, d0, d1, d2, d3⟩ := (HL.out wr hbw).1.nth hlt
        obtain ⟨bb', off', q, rfl, hbB', hlo', hq, hql, f0, f1, f2, f3⟩ := (HL.out wr hbw).2.nth hlt2
        have hszw := hbw.size
        have hbl : bb' < wr.heap.size := by omega
        have hb1 := below_new wr (.cells #[.int .i64 p.kind, .int .u64 (p.a : Int), .int .u64 (p.b : Int), p.sl] 25)
        have hb2 := hb1.alloc hb1.size (.cells #[.int .i64 q.kind, .int .u64 (q.a : Int), .int .u64 (q.b : Int), q.sl] 25)
        have CH := IH.out p (List.mem_of_getElem? hp) q ((wr.alloc (.cells #[.int .i64 p.kind, .int .u64 (p.a : Int), .int .u64 (p.b : Int), p.sl] 25)).alloc (.cells #[.int .i64 q.kind, .int .u64 (q.a : Int), .int .u64 (q.b : Int), q.sl] 25)) (hpl.under (hb2.mono (by omega))) (by simp; omega) (hql.under (hb2.mono (by omega))) (by simp; omega)
        have hbA := hbw.trans (hb2.mono hbw.size)
        obtain ⟨sr, hsr⟩ : ∃ sr, sr = p.abs.sameB q.abs := ⟨_, rfl⟩
        rw [← hsr] at CH
        have HN : Hid ((sr = true → V.absL (ps.take (i + 1)) = V.absL (qs.take (i + 1))) ∧ (sr = false → ¬ V.absL ps = V.absL qs)) := by
          refine ⟨fun h => ?_, fun h => ?_⟩
          · have : p.abs = q.abs := (sameB_iff _ _).1 (hsr.symm.trans h)
            rw [absL_take hp, absL_take hq, hme.out, this]
          · refine absL_ne hp hq (fun e => ?_)
            rw [e, sameB_self] at hsr
            rw [hsr] at h; cases h
        cases p with
        | node pk pa pb pA pc pps =>
        cases q with
        | node qk qa qb qA qc qqs =>
        simp only [V.val, V.kind, V.a, V.b, V.sl, V.addr, V.parts, V.cap] at CH d0 d1 d2 d3 f0 f1 f2 f3 hbA
        clear hsr hp hq hpl hql hme hb1 hb2
        go_wp2_with fail
        refine CH.mono ?_
        rintro e ws ⟨rfl, hbs⟩
        have hbws := hbA.trans (hbs.mono hbA.size)
        clear CH hbs hbA d0 d1 d2 d3 f0 f1 f2 f3
        cases sr with
        | true =>
          have HM := Lib_hid (HN.out.1 (by simp))
          go_wp2
          go_roundw
          case rel => exact ⟨i + 1, by go_num, by omega, HM, hbws⟩
          case measure => simp [intOf]; omega
        | false =>
          have HM := Lib_hid (HN.out.2 (by simp))
          have PF : Hid (∀ W, Below w.heap.size w W → ∃ r, Ending.returned (.bool false) = .returned (.bool r) ∧ (r = true ↔ V.absL ps = V.absL qs) ∧ Below w.heap.size w W) := fun W hW => ⟨false, rfl, ⟨(fun h => by cases h), fun h => absurd h HM.out⟩, hW⟩
          go_wp2
          go_ret
          exact PF.out _ hbws
      · obtain rfl : i = ps.length := by omega
        have HM : Hid (V.absL ps = V.absL qs) := by
          have h := hme.out
          rw [List.take_length, HQ.out, List.take_length] at h
          exact h
        have PF : Hid (∀ W, Below w.heap.size w W → ∃ r, Ending.returned (.bool true) = .returned (.bool r) ∧ (r = true ↔ V.absL ps = V.absL qs) ∧ Below w.heap.size w W) := fun W hW => ⟨true, rfl, ⟨fun _ => HM.out, fun _ => rfl⟩, hW⟩
        clear hme
        go_wp2
        go_ret
        exact PF.out _ hbw
  · have q4 : ((ps.length : Int) != (qs.length : Int)) = true := by simp; omega
    have PF : Hid (∀ W, Below w.heap.size w W → ∃ r, Ending.returned (.bool false) = .returned (.bool r) ∧ (r = true ↔ V.absL ps = V.absL qs) ∧ Below w.heap.size w W) := fun W hW => ⟨false, rfl, ⟨(fun h => by cases h), fun h => absurd (by have := congrArg List.length h; rwa [absL_length, absL_length] at this) hll⟩, hW⟩
    clear hll
    go_enter Tryz.func50, Tryz.ntmps50
    go_wp2
    go_ret
    exact PF.out _ (Below.refl _ _)

set_option maxRecDepth 100000 in
set_option maxHeartbeats 1600000 in
theorem psame_any : ∀ (v u : V) (w : World) (lo hi lo' hi' : Nat), Lies w lo hi v → hi ≤ w.heap.size → Lies w lo' hi' u → hi' ≤ w.heap.size →
    Calls Tryz.prog 30 #[v.val, u.val] w fun e w' => e = .returned (.bool (v.abs.sameB u.abs)) ∧ Below w.heap.size w w' := by
  refine V.ind fun k a b A c ps ih u w lo hi lo' hi' hL hhi hL' hhi' => ?_
  cases u with
  | node k' a' b' A' c' qs =>
  have hb1 := below_new w (.cells #[.int .i64 k, .int .u64 (a : Int), .int .u64 (b : Int), .slice A ps.length c] 25)
  have hbA := hb1.alloc hb1.size (.cells #[.int .i64 k', .int .u64 (a' : Int), .int .u64 (b' : Int), .slice A' qs.length c'] 25)
  have EF := eqf_any k k' a b a' b' c c' lo hi lo' hi' A A' ps qs ((w.alloc (.cells #[.int .i64 k, .int .u64 (a : Int), .int .u64 (b : Int), .slice A ps.length c] 25)).alloc (.cells #[.int .i64 k', .int .u64 (a' : Int), .int .u64 (b' : Int), .slice A' qs.length c'] 25)) (hL.under (hbA.mono hhi)) (by simp; omega) (hL'.under (hbA.mono hhi')) (by simp; omega) (fun p hp u W h2 h3 h4 h5 => ih p hp u W lo hi lo' hi' h2 h3 h4 h5)
  have HE : Hid ((V.node k a b A c ps).abs = .node k a b (V.absL ps) ∧ (V.node k' a' b' A' c' qs).abs = .node k' a' b' (V.absL qs)) := ⟨V.abs_node .., V.abs_node ..⟩
  obtain ⟨r, hr⟩ : ∃ r, r = (V.node k a b A c ps).abs.sameB (V.node k' a' b' A' c' qs).abs := ⟨_, rfl⟩
  rw [← hr]
  have HR : Hid ((k = k' ∧ a = a' ∧ b = b' ∧ V.absL ps = V.absL qs → r = true) ∧ (¬ (k = k' ∧ a = a' ∧ b = b' ∧ V.absL ps = V.absL qs) → r = false)) := by
    rw [HE.out.1, HE.out.2] at hr
    refine ⟨fun ⟨h1, h2, h3, h4⟩ => ?_, fun h => ?_⟩
    · rw [hr, h1, h2, h3, h4, sameB_self]
    · rw [hr]; exact sameB_ne fun e => h (by injection e with e1 e2 e3 e4; exact ⟨e1, e2, e3, e4⟩)
  clear ih hL hL' hr hb1
  simp only [V.val, V.kind, V.a, V.b, V.sl, V.addr, V.parts, V.cap]
  by_cases hkk : k = k'
  · by_cases haa : a = a'
    · by_cases hbb : b = b'
      · have q1 : (k == k') = true := by simp [hkk]
        have q2 : ((a : Int) == (a' : Int)) = true := by simp [haa]
        have q3 : ((b : Int) == (b' : Int)) = true := by simp [hbb]
        have HQ := Lib_hid (And.intro hkk (And.intro haa hbb))
        clear hkk haa hbb
        go_enter Tryz.func30, Tryz.ntmps30
        go_wp2_with fail
        refine EF.mono ?_
        rintro e w1 ⟨s, rfl, hs, hb2⟩
        have hbw := hbA.trans (hb2.mono hbA.size)
        have HM : Hid (s = r) := by
          cases s with
          | true => exact (HR.out.1 ⟨HQ.out.1, HQ.out.2.1, HQ.out.2.2, hs.1 rfl⟩).symm
          | false => exact (HR.out.2 fun ⟨_, _, _, h4⟩ => by have := hs.2 h4; cases this).symm
        clear EF hs hb2 hbA
        go_wp2
        go_ret
        exact ⟨ret_b HM.out, hbw⟩
      · have HM := Lib_hid (HR.out.2 fun ⟨_, _, h3, _⟩ => hbb h3)
        have q1 : (k == k') = true := by simp [hkk]
        have q2 : ((a : Int) == (a' : Int)) = true := by simp [haa]
        have q3 : ((b : Int) == (b' : Int)) = false := by simp; omega
        clear hkk haa hbb EF
        go_enter Tryz.func30, Tryz.ntmps30
        go_wp2
        go_ret
        exact ⟨ret_b HM.out.symm, hbA⟩
    · have HM := Lib_hid (HR.out.2 fun ⟨_, h2, _⟩ => haa h2)
      have q1 : (k == k') = true := by simp [hkk]
      have q2 : ((a : Int) == (a' : Int)) = false := by simp; omega
      clear hkk haa EF
      go_enter Tryz.func30, Tryz.ntmps30
      go_wp2
      go_ret
      exact ⟨ret_b HM.out.symm, hbA⟩
  · have HM := Lib_hid (HR.out.2 fun ⟨h1, _⟩ => hkk h1)
    have q1 : (k == k') = false := by simp [hkk]
    clear hkk EF
    go_enter Tryz.func30, Tryz.ntmps30
    go_wp2
    go_ret
    exact ⟨ret_b HM.out.symm, hbA⟩

end Go.Proofs.YtiijdacnfhiagaaGreatDoor

namespace Go.Proofs.YtiijdacnfhiagaaGreatDoor
open Go Go.RowKit
set_option linter.unusedVariables false

theorem Tryz.infoE : (Tryz.prog.info? 25).map (fun i => (i.zero, i.size, i.bytes)) = some (some (.agg #[.int .i64 0, .int .u64 0, .int .u64 0, .slice none 0 0]), 4, 48) := by kernel_rfl

/-- A row of parts of the call's own. -/
def ClEnd (E : TypeId) (n : Nat) (xs : List Value) (w : World) (e : Ending) (w' : World) : Prop :=
  ∃ A' c', e = .returned (.slice A' n c') ∧ w'.ownsRow w.heap.size E 4 (.slice A' n c') n xs ∧ Below w.heap.size w w'

set_option maxRecDepth 100000 in
theorem eclone_any (B : Nat) (A : Option Addr) (n c : Nat) (vs : List V) (w : World) (h : Rd w B 4 A n (vCells vs)) (hn : n ≤ 1000) :
    Calls Tryz.prog 57 #[.slice A n c] w (ClEnd 25 n (vCells vs) w) := by
  have hnil : ∀ wx, (binOp .eql 23 (.slice A n c) (.slice none 0 0)).run Tryz.prog wx = .ok (.bool A.isNone) wx := fun wx => Lib.run_eql_slice_nil wx 23 25 A n c 0 0 Tryz.underlying23
  cases A with
  | none =>
    have h0 : n = 0 := by
      rcases Nat.eq_zero_or_pos n with h0 | h0
      · exact h0
      · obtain ⟨ad, e, _⟩ := h.lies h0; cases e
    subst h0
    have hv : vCells vs = [] := List.eq_nil_of_length_eq_zero (by have := h.len; omega)
    have HV := Lib_hid hv
    clear h hv
    go_enter Tryz.func57, Tryz.ntmps57
    go_wp2
    go_ret
    exact ⟨none, 0, rfl, by rw [HV.out]; exact World.ownsRow_nil _ _ _ _, Below.refl _ _⟩
  | some ad =>
    obtain ⟨i0, hi, hz0, hz1, hz2⟩ := info_parts Tryz.infoE
    have hm1 : 0 + n ≤ maxLen := by unfold maxLen; omega
    have hm2 : (0 + n) * 48 ≤ 140737488355328 := by omega
    have hon : (w.alloc (.cells #[] 25)).ownsRow w.heap.size 25 4 (.slice (some ⟨w.heap.size, 0, none⟩) 0 0) 0 [] := World.ownsRow_lit w #[] 0 (Nat.le_refl _) (by decide) rfl
    have h2 : Rd (w.alloc (.cells #[] 25)) (w.heap.size + 1) 4 (some ad) n (vCells vs) := by
      refine ⟨h.len, fun hn => ?_⟩
      obtain ⟨ad', e, hb, hc⟩ := h.lies hn
      have hlt : ad'.block < w.heap.size := by
        have := World.block_lt_of_cell? w _ (hc 0 ((vCells vs)[0]'(by have := h.len; omega)) (List.getElem?_eq_getElem _))
        rwa [add_block] at this
      exact ⟨ad', e, by omega, fun j u hu => (World.cell?_alloc_lt w _ _ (by rw [add_block]; exact hlt)).trans (hc j u hu)⟩
    have hsz : w.heap.size ≤ (w.alloc (.cells #[] 25)).heap.size := by simp
    clear h
    go_enter Tryz.func57, Tryz.ntmps57
    go_wp2_with (at_builtin; (refine wpList_app rfl _ _ 23 rfl w.heap.size 25 i0 (.agg #[.int .i64 0, .int .u64 0, .int .u64 0, .slice none 0 0]) 4 48 Tryz.underlying23 hi hz0 hz1 hz2 rfl (by decide) _ 0 [] rfl hon (w.heap.size + 1) (some ad) n c (vCells vs) rfl h2 (v_one _) hm1 hm2 hsz ?_); intro v' w1 hown' hst; simp only [Nat.zero_add, List.nil_append] at hown'; obtain ⟨A2, c2, rfl, _⟩ := own_form hown')
    go_ret
    exact ⟨A2, c2, rfl, hown', ((Below.refl _ _).alloc (Nat.le_refl _) _).trans (hst.below hsz (fun k hk => by have : w.heap.size = k := (by injection hk); omega))⟩

theorem vCells_set (us ps : List V) (p : V) (r : List V) (A' : Option Addr) (c' : Nat) (qs : List V) (hp : ps = p :: r) :
    (vCells us ++ vCells ps).set (us.length * 4 + 3) (.slice A' qs.length c') = vCells (us ++ [.node p.kind p.a p.b A' c' qs]) ++ vCells r := by
  subst hp
  rw [List.set_append_right _ _ (by rw [vCells_length]; omega), vCells_length, show us.length * 4 + 3 - us.length * 4 = 3 by omega, vCells_append, List.append_assoc]
  congr 1
theorem Lies.stored {w : World} {lo hi g i : Nat} {v : V} (h : Lies w lo hi v) (hg : g < lo) (x : Value) : Lies (w.setCell ⟨g, i, none⟩ x) lo hi v :=
  h.keep fun p hlo _ => World.cell?_of_block (Below.heap_setCell w ⟨g, i, none⟩ x p.block (by show p.block ≠ g; omega))

/-- How copies ends. -/
def CopEnd (ps : List V) (w : World) (e : Ending) (w' : World) : Prop :=
  ∃ A' c' us, e = .returned (.slice A' us.length c') ∧ us.length = ps.length ∧ V.absL us = V.absL ps ∧ (∀ u ∈ us, Lies w' w.heap.size w'.heap.size u) ∧ w'.ownsRow w.heap.size 25 4 (.slice A' us.length c') us.length (vCells us) ∧ Below w.heap.size w w' ∧ ∀ u ∈ us, Shp 25 w' w.heap.size u

set_option maxRecDepth 100000 in
set_option maxHeartbeats 1600000 in
theorem copies_any : ∀ (v : V) (w : World) (lo hi : Nat), Lies w lo hi v → hi ≤ w.heap.size → v.abs.count ≤ 1000 → Calls Tryz.prog 42 #[v.sl] w (CopEnd v.parts w) := by
  refine V.ind fun k a b A c ps ih w lo hi hL hhi hct => ?_
  obtain ⟨hlen, hcap', -, -, -⟩ := hL.caps
  have hlc : ps.length ≤ 1000 := by
    rw [V.count_node] at hct
    have := length_le_countL (V.absL ps)
    rw [absL_length] at this
    omega
  have CL := eclone_any hi A ps.length c ps w hL.top.2.2.2.2.2 hlc
  have IH : Hid (∀ (i : Nat) (p : V), ps[i]? = some p → ∀ W, Below w.heap.size w W → Calls Tryz.prog 42 #[p.sl] W (CopEnd p.parts W)) := fun i p hp W hW => ih p (List.mem_of_getElem? hp) W lo hi ((hL.part (List.mem_of_getElem? hp)).under (hW.mono hhi)) (Nat.le_trans hhi hW.size) (hL.small hct hp).1
  have HB : Hid (∀ p ∈ ps, (-9223372036854775808 ≤ p.kind ∧ p.kind ≤ 9223372036854775807) ∧ p.a < 18446744073709551616 ∧ p.b < 18446744073709551616) := fun p hp => let ⟨h1, h2, h3, _⟩ := (hL.part hp).top; ⟨h1, h2, h3⟩
  clear ih hL hct
  show Calls Tryz.prog 42 #[.slice A ps.length c] w (CopEnd ps w)
  go_enter Tryz.func42, Tryz.ntmps42
  go_wp2_with fail
  refine CL.mono ?_
  rintro e w1 ⟨A1, c1, rfl, ho1, hb1⟩
  have hc1 := own_cap ho1
  have hsz1 := hb1.size
  have hlt1 := own_lt ho1
  have hge1 := own_ge ho1
  have HO1 : Hid (w1.ownsRow w.heap.size 25 4 (.slice A1 ps.length c1) ps.length (vCells [] ++ vCells (ps.drop 0))) := ho1
  clear CL ho1
  go_wp2
  go_loopw [9] (fun z W => ∃ (i : Nat) (us : List V), z = .int .i64 i ∧ i ≤ ps.length ∧ Hid (us.length = i ∧ V.absL us = V.absL (ps.take i) ∧ ∀ u ∈ us, Lies W w1.heap.size W.heap.size u ∧ Shp 25 W w1.heap.size u) ∧ W.ownsRow w.heap.size 25 4 (.slice A1 ps.length c1) ps.length (vCells us ++ vCells (ps.drop i)) ∧ w1.heap.size ≤ W.heap.size ∧ Below w.heap.size w W) (fun z _ => ps.length - (intOf z).toNat)
  case atStart => exact ⟨0, [], rfl, Nat.zero_le _, Lib_hid ⟨rfl, by simp [V.absL], by simp⟩, HO1.out, Nat.le_refl _, hb1⟩
  case round =>
    clear HO1
    obtain ⟨i, us, rfl, hi1, hus, ho, hwz, hbw⟩ := hrel
    rename World => W
    by_cases hlt : i < ps.length
    · obtain ⟨g, cap, hv, hgw, hgl⟩ := ho.form (by omega)
      have hA : A1 = some ⟨g, 0, none⟩ := by injection hv
      subst hA
      have hg1 : g < w1.heap.size := hlt1 g rfl
      obtain ⟨p, hp⟩ : ∃ p, ps[i]? = some p := ⟨_, List.getElem?_eq_getElem hlt⟩
      have hdr : ps.drop i = p :: ps.drop (i + 1) := by
        rw [List.drop_eq_getElem_cons hlt]
        congr 1
        exact (List.getElem?_eq_some_iff.1 hp).2
      have hcell : W.cell? ⟨g, i * 4 + 3, none⟩ = some p.sl := by
        rw [ho.cellAt (i * 4 + 3) (by omega), hdr, List.getElem?_append_right (by rw [vCells_length, hus.out.1]; omega), vCells_length, hus.out.1, show i * 4 + 3 - i * 4 = 3 by omega]
        rfl
      have CH := IH.out i p hp W hbw
      have HO := Lib_hid ho
      have HP := Lib_hid (And.intro hp hdr)
      obtain ⟨hbk, hba, hbb⟩ := HB.out p (List.mem_of_getElem? hp)
      have HBP := Lib_hid (And.intro hbk (And.intro hba hbb))
      have hps : p.sl = .slice p.addr p.parts.length p.cap := rfl
      rw [hps] at hcell CH
      have hszw := hbw.size
      clear hp hdr ho hv hps hbk hba hbb
      generalize p.addr = pA at *
      generalize p.cap = pc at *
      go_wp2_with fail
      refine CH.mono ?_
      rintro e w2 ⟨A2, c2, qs, rfl, hql, hqa, hqL, ho2, hb2, hqS⟩
      have ho2r := own_below HO.out hb2 (own_lt HO.out)
      have hf2 := ho2r.frozenAt (i * 4 + 3)
      have hc2 : w2.cell? ⟨g, i * 4 + 3, none⟩ = some (.slice pA p.parts.length pc) := (hb2.cell (p := ⟨g, i * 4 + 3, none⟩) hgl).trans hcell
      have ST := ho2r.stored (i * 4 + 3) (.slice A2 qs.length c2)
      have hcp2 := own_cap ho2
      have hsz2 := hb2.size
      have hge2 := own_ge ho2
      have hset : (vCells us ++ vCells (ps.drop i)).set (i * 4 + 3) (.slice A2 qs.length c2) = vCells (us ++ [.node p.kind p.a p.b A2 c2 qs]) ++ vCells (ps.drop (i + 1)) := by
        rw [← hus.out.1]
        rw [hus.out.1]
        have := vCells_set us (ps.drop i) p (ps.drop (i + 1)) A2 c2 qs HP.out.2
        rwa [hus.out.1] at this
      rw [hset] at ST
      have hnew : Lies w2 w1.heap.size w2.heap.size (.node p.kind p.a p.b A2 c2 qs) := .mk _ _ _ _ _ _ HBP.out.1 HBP.out.2.1 HBP.out.2.2 (Rd.own ho2) hcp2 (fun ad e hn => by
        subst e
        obtain ⟨g2, cap2, hv2, _, _⟩ := ho2.form hn
        injection hv2 with e2
        injection e2 with e2
        subst e2
        have := hge2 g2 rfl
        show w1.heap.size ≤ g2
        omega) (fun q hq => (hqL q hq).more (by omega) (Nat.le_refl _))
      have hnewS : Shp 25 w2 w1.heap.size (.node p.kind p.a p.b A2 c2 qs) := Shp.own (base := W.heap.size) _ _ _ ho2 hwz (fun q hq => (hqS q hq).more hwz)
      have hall : ∀ u ∈ us ++ [.node p.kind p.a p.b A2 c2 qs], Lies (w2.setCell ⟨g, i * 4 + 3, none⟩ (.slice A2 qs.length c2)) w1.heap.size (w2.setCell ⟨g, i * 4 + 3, none⟩ (.slice A2 qs.length c2)).heap.size u ∧ Shp 25 (w2.setCell ⟨g, i * 4 + 3, none⟩ (.slice A2 qs.length c2)) w1.heap.size u := by
        intro u hu
        have hs3 : (w2.setCell ⟨g, i * 4 + 3, none⟩ (.slice A2 qs.length c2)).heap.size = w2.heap.size := by simp [World.setCell]
        rw [hs3]
        rcases List.mem_append.1 hu with hu | hu
        · exact ⟨(((hus.out.2.2 u hu).1.under hb2).more (Nat.le_refl _) hsz2).stored hg1 _, ((hus.out.2.2 u hu).2.under hb2).aside hg1 _⟩
        · obtain rfl : u = .node p.kind p.a p.b A2 c2 qs := by simpa using hu
          exact ⟨hnew.stored hg1 _, hnewS.aside hg1 _⟩
      have habs : V.absL (us ++ [.node p.kind p.a p.b A2 c2 qs]) = V.absL (ps.take (i + 1)) := by
        rw [absL_take HP.out.1, absL_map, List.map_append, ← absL_map, hus.out.2.1]
        congr 1
        show [V.abs _] = _
        rw [V.abs, hqa]
        cases p with
        | node pk pa pb pA' pc' pps => rw [V.abs]; rfl
      have hlen' : (us ++ [V.node p.kind p.a p.b A2 c2 qs]).length = i + 1 := by rw [List.length_append, hus.out.1]; rfl
      have hbw3 := (hbw.trans (hb2.mono hszw)).grown ST.2 (by have := hb2.size; omega) (fun k hk => by have e2 : g = k := Option.some.inj hk; omega)
      have HU := Lib_hid (And.intro hlen' (And.intro habs hall))
      have HS := Lib_hid ST.1
      have hsz3 : w1.heap.size ≤ (w2.setCell ⟨g, i * 4 + 3, none⟩ (.slice A2 qs.length c2)).heap.size := by have := ST.2.size; omega
      clear CH hql hqa hqL hqS ho2 hb2 ho2r ST hset hnew hnewS hall habs hlen' hge2 hcell
      go_wp2
      go_roundw
      case rel => exact ⟨i + 1, us ++ [.node p.kind p.a p.b A2 c2 qs], by go_num, by omega, HU, HS.out, hsz3, hbw3⟩
      case measure => simp [intOf]; omega
    · obtain rfl : i = ps.length := by omega
      have PF : Hid (CopEnd ps w (.returned (.slice A1 ps.length c1)) W) := by
        obtain ⟨h1, h2, h3⟩ := hus.out
        rw [List.take_length] at h2
        refine ⟨A1, c1, us, by rw [h1], h1, h2, fun u hu => (h3 u hu).1.more hsz1 (Nat.le_refl _), ?_, hbw, fun u hu => (h3 u hu).2.more hsz1⟩
        have := ho
        rw [List.drop_length] at this
        rw [h1]
        simpa [vCells] using this
      clear hus ho
      go_wp2
      go_ret
      exact PF.out

end Go.Proofs.YtiijdacnfhiagaaGreatDoor
