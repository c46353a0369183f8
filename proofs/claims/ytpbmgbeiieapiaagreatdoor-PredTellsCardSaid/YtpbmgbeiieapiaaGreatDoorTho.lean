/-
  Layer 4: holds, the program's, with what each kind asks.
-/
import Derived.Test.YtpbmgbeiieapiaaGreatDoorTas
namespace Go.Proofs.YtpbmgbeiieapiaaGreatDoor
open Go Go.RowKit
set_option linter.unusedVariables false

theorem manyL_split {x y : Nat} (ps : List V) (i : Nat) : T.manyL x y (V.absL ps) = T.manyL x y (V.absL (ps.take i)) + T.manyL x y (V.absL (ps.drop i)) := by
  conv => lhs; rw [← List.take_append_drop i ps]
  rw [absL_map, List.map_append, manyL_append, ← absL_map, ← absL_map]
theorem manyL_le {x y : Nat} : ∀ ts : List T, T.manyL x y ts ≤ ts.length
  | [] => by simp [T.manyL]
  | t :: ts => by rw [T.manyL, List.length_cons]; have := manyL_le (x := x) (y := y) ts; split <;> omega
theorem manyL_lt {x y : Nat} {ps : List V} {i : Nat} {p : V} (h : ps[i]? = some p) (hf : p.abs.askB x y = false) : T.manyL x y (V.absL ps) < ps.length := by
  have h1 := manyL_split (x := x) (y := y) ps (i + 1)
  rw [manyL_take h, hf] at h1
  have h2 := manyL_le (x := x) (y := y) (V.absL (ps.take i))
  have h3 := manyL_le (x := x) (y := y) (V.absL (ps.drop (i + 1)))
  have hi := (List.getElem?_eq_some_iff.1 h).1
  rw [absL_length] at h2 h3
  rw [List.length_take] at h2
  rw [List.length_drop] at h3
  simp at h1
  omega
theorem manyL_pos {x y : Nat} {ps : List V} {i : Nat} {p : V} (h : ps[i]? = some p) (hf : p.abs.askB x y = true) : 0 < T.manyL x y (V.absL ps) := by
  have h1 := manyL_split (x := x) (y := y) ps (i + 1)
  rw [manyL_take h, hf] at h1
  simp at h1
  omega

/-- The parts are asked as they should be. -/
def HoldsC (x y lo hi : Nat) (ps : List V) : Prop := ∀ p ∈ ps, ∀ (W : World), Lies W lo hi p → hi ≤ W.heap.size → Calls Tryz.prog 46 #[p.val, .int .u64 (x : Int), .int .u64 (y : Int)] W fun e w' => e = .returned (.bool (p.abs.askB x y)) ∧ Below W.heap.size W w'

set_option maxRecDepth 100000 in
set_option maxHeartbeats 1600000 in
theorem asks_any (x y : Nat) (hx : x < 18446744073709551616) (hy : y < 18446744073709551616) (k : Int) (a b c lo hi : Nat) (A : Option Addr) (ps : List V) (w : World) (hL : Lies w lo hi (.node k a b A c ps)) (hhi : hi ≤ w.heap.size) (hfit : fitsB k a b ps.length = true) (hk : 1 ≤ k ∧ k ≤ 7) (hC : HoldsC x y lo hi ps) :
    Calls Tryz.prog (askF k) #[.agg #[.int .i64 k, .int .u64 (a : Int), .int .u64 (b : Int), .slice A ps.length c], .int .u64 (x : Int), .int .u64 (y : Int)] w fun e w' => e = .returned (.bool (askN k a b (T.manyL x y (V.absL ps)) ps.length x y)) ∧ Below w.heap.size w w' := by
  obtain ⟨hlen, hcap', -, -, -⟩ := hL.caps
  have HL : Hid (∀ W, Below w.heap.size w W → Lies W lo hi (V.node k a b A c ps)) := fun W hW => hL.under (hW.mono hhi)
  have IH := Lib_hid hC
  have HXY := Lib_hid (And.intro hx hy)
  have hbx := heap_alloc_new w (.cells #[.int .i64 k, .int .u64 (a : Int), .int .u64 (b : Int), .slice A ps.length c] 25)
  have hb0 := below_new w (.cells #[.int .i64 k, .int .u64 (a : Int), .int .u64 (b : Int), .slice A ps.length c] 25)
  have HF := Lib_hid hfit
  clear hL hC hx hy hfit
  have hk' : k = 1 ∨ k = 2 ∨ k = 3 ∨ k = 4 ∨ k = 5 ∨ k = 6 ∨ k = 7 := by omega
  clear hk
  rcases hk' with rfl | rfl | rfl | rfl | rfl | rfl | rfl
  · show Calls Tryz.prog 88 _ _ _
    clear hbx
    go_enter Tryz.func88, Tryz.ntmps88
    go_wp2
    go_ret
    exact ⟨rfl, hb0⟩
  · show Calls Tryz.prog 91 _ _ _
    clear hbx
    go_enter Tryz.func91, Tryz.ntmps91
    go_wp2
    go_ret
    exact ⟨ret_b (by simp [askN]), hb0⟩
  · show Calls Tryz.prog 92 _ _ _
    clear hbx
    go_enter Tryz.func92, Tryz.ntmps92
    go_wp2
    go_ret
    exact ⟨ret_b (by simp [askN]), hb0⟩
  · show Calls Tryz.prog 95 _ _ _
    have hfx : b < a := by have := HF.out; unfold fitsB at this; simp at this; exact this.1
    have ha0 : ((a : Int) == 0) = false := by simp; omega
    have hy0 : (0 : Int) ≤ (y : Int) := by omega
    have c1 := cell_of_row _ _ 1 _ _ _ hbx
    have c2 := cell_of_row _ _ 2 _ _ _ hbx
    clear hbx
    go_enter Tryz.func95, Tryz.ntmps95
    go_wp2
    try go_quiet (fail)
    try go_wp2
    go_ret
    exact ⟨ret_b (by simp [askN]; rw [Bool.eq_iff_iff]; simp; omega), ⟨hb0.os, hb0.tape, hb0.output, hb0.size, hb0.block⟩⟩
  · show Calls Tryz.prog 97 _ _ _
    have hl1 : ps.length = 1 := by have := HF.out; unfold fitsB at this; simp at this; exact this.2.2
    obtain ⟨bb, off, p, rfl, hbB, hlo, hp, hpl, d0, d1, d2, d3⟩ := (HL.out _ hb0).nth (i := 0) (by omega)
    have CH := IH.out p (List.mem_of_getElem? hp) _ hpl (by have := hb0.size; omega)
    have HM : Hid (T.manyL x y (V.absL ps) = if p.abs.askB x y then 1 else 0) := by
      have h1 := manyL_split (x := x) (y := y) ps 1
      rw [manyL_take (i := 0) hp, List.drop_of_length_le (by omega)] at h1
      unfold Hid
      simpa [V.absL, T.manyL] using h1
    obtain ⟨r, hr⟩ : ∃ r, r = p.abs.askB x y := ⟨_, rfl⟩
    rw [← hr] at CH HM
    cases p with
    | node pk pa pb pA pc pps =>
    simp only [V.val, V.kind, V.a, V.b, V.sl, V.addr, V.parts, V.cap, Nat.zero_mul, Nat.add_zero] at CH d0 d1 d2 d3
    have HLN := Lib_hid hl1
    have hl0 : 0 < ps.length := by omega
    clear hr hp hpl hbx hl1
    go_enter Tryz.func97, Tryz.ntmps97
    go_wp2_with fail
    refine CH.mono ?_
    rintro e w1 ⟨rfl, hb1⟩
    have hbw1 := hb0.trans (hb1.mono hb0.size)
    clear CH hb1 d0 d1 d2 d3
    go_wp2
    go_ret
    exact ⟨ret_b (by rw [HM.out]; cases r <;> simp [askN]), hbw1⟩
  · show Calls Tryz.prog 99 _ _ _
    clear hbx
    go_enter Tryz.func99, Tryz.ntmps99
    go_wp2
    go_loopw [12] (fun u wr => ∃ (i : Nat), u = .int .i64 i ∧ i ≤ ps.length ∧ Hid (T.manyL x y (V.absL (ps.take i)) = i) ∧ Below w.heap.size w wr) (fun u _ => ps.length - (intOf u).toNat)
    case atStart => exact ⟨0, rfl, Nat.zero_le _, Lib_hid (by simp [V.absL, T.manyL]), hb0⟩
    case round =>
      clear hb0
      obtain ⟨i, rfl, hi1, hme, hbw⟩ := hrel
      by_cases hlt : i < ps.length
      · obtain ⟨bb, off, p, rfl, hbB, hlo, hp, hpl, d0, d1, d2, d3⟩ := (HL.out wr hbw).nth hlt
        have hszw := hbw.size
        have CH := IH.out p (List.mem_of_getElem? hp) (wr.alloc (.cells #[.int .i64 p.kind, .int .u64 (p.a : Int), .int .u64 (p.b : Int), p.sl] 25)) (hpl.under ((below_new wr _).mono (by omega))) (by simp; omega)
        have hmt := manyL_take (x := x) (y := y) hp
        have hbA := hbw.alloc hbw.size (.cells #[.int .i64 p.kind, .int .u64 (p.a : Int), .int .u64 (p.b : Int), p.sl] 25)
        cases hpk : p.abs.askB x y with
        | true =>
          have HN : Hid (T.manyL x y (V.absL (ps.take (i + 1))) = i + 1) := by unfold Hid; rw [hmt, hpk, hme.out]; simp
          rw [hpk] at CH
          cases p with
          | node pk pa pb pA pc pps =>
          simp only [V.val, V.kind, V.a, V.b, V.sl, V.addr, V.parts, V.cap] at CH d0 d1 d2 d3 hbA
          clear hpk hmt hme hp hpl
          go_wp2_with fail
          refine CH.mono ?_
          rintro e w1 ⟨rfl, hb1⟩
          have hbw1 := hbA.trans (hb1.mono hbA.size)
          clear CH hb1 d0 d1 d2 d3 hbA
          go_wp2
          go_roundw
          case rel => exact ⟨i + 1, by go_num, by omega, HN, hbw1⟩
          case measure => simp [intOf]; omega
        | false =>
          have HN : Hid (¬ T.manyL x y (V.absL ps) = ps.length) := by unfold Hid; have := manyL_lt hp hpk; omega
          rw [hpk] at CH
          cases p with
          | node pk pa pb pA pc pps =>
          simp only [V.val, V.kind, V.a, V.b, V.sl, V.addr, V.parts, V.cap] at CH d0 d1 d2 d3 hbA
          clear hpk hmt hme hp hpl
          go_wp2_with fail
          refine CH.mono ?_
          rintro e w1 ⟨rfl, hb1⟩
          have hbw1 := hbA.trans (hb1.mono hbA.size)
          clear CH hb1 d0 d1 d2 d3 hbA
          go_wp2
          go_ret
          exact ⟨ret_b (by simp [askN, HN.out]), hbw1⟩
      · obtain rfl : i = ps.length := by omega
        have HM : Hid (T.manyL x y (V.absL ps) = ps.length) := by have := hme.out; rwa [List.take_length] at this
        clear hme
        go_wp2
        go_ret
        exact ⟨ret_b (by simp [askN, HM.out]), hbw⟩
  · show Calls Tryz.prog 100 _ _ _
    clear hbx
    go_enter Tryz.func100, Tryz.ntmps100
    go_wp2
    go_loopw [12] (fun u wr => ∃ (i : Nat), u = .int .i64 i ∧ i ≤ ps.length ∧ Hid (T.manyL x y (V.absL (ps.take i)) = 0) ∧ Below w.heap.size w wr) (fun u _ => ps.length - (intOf u).toNat)
    case atStart => exact ⟨0, rfl, Nat.zero_le _, Lib_hid (by simp [V.absL, T.manyL]), hb0⟩
    case round =>
      clear hb0
      obtain ⟨i, rfl, hi1, hme, hbw⟩ := hrel
      by_cases hlt : i < ps.length
      · obtain ⟨bb, off, p, rfl, hbB, hlo, hp, hpl, d0, d1, d2, d3⟩ := (HL.out wr hbw).nth hlt
        have hszw := hbw.size
        have CH := IH.out p (List.mem_of_getElem? hp) (wr.alloc (.cells #[.int .i64 p.kind, .int .u64 (p.a : Int), .int .u64 (p.b : Int), p.sl] 25)) (hpl.under ((below_new wr _).mono (by omega))) (by simp; omega)
        have hmt := manyL_take (x := x) (y := y) hp
        have hbA := hbw.alloc hbw.size (.cells #[.int .i64 p.kind, .int .u64 (p.a : Int), .int .u64 (p.b : Int), p.sl] 25)
        cases hpk : p.abs.askB x y with
        | false =>
          have HN : Hid (T.manyL x y (V.absL (ps.take (i + 1))) = 0) := by unfold Hid; rw [hmt, hpk, hme.out]; simp
          rw [hpk] at CH
          cases p with
          | node pk pa pb pA pc pps =>
          simp only [V.val, V.kind, V.a, V.b, V.sl, V.addr, V.parts, V.cap] at CH d0 d1 d2 d3 hbA
          clear hpk hmt hme hp hpl
          go_wp2_with fail
          refine CH.mono ?_
          rintro e w1 ⟨rfl, hb1⟩
          have hbw1 := hbA.trans (hb1.mono hbA.size)
          clear CH hb1 d0 d1 d2 d3 hbA
          go_wp2
          go_roundw
          case rel => exact ⟨i + 1, by go_num, by omega, HN, hbw1⟩
          case measure => simp [intOf]; omega
        | true =>
          have HN : Hid (0 < T.manyL x y (V.absL ps)) := Lib_hid (manyL_pos hp hpk)
          rw [hpk] at CH
          cases p with
          | node pk pa pb pA pc pps =>
          simp only [V.val, V.kind, V.a, V.b, V.sl, V.addr, V.parts, V.cap] at CH d0 d1 d2 d3 hbA
          clear hpk hmt hme hp hpl
          go_wp2_with fail
          refine CH.mono ?_
          rintro e w1 ⟨rfl, hb1⟩
          have hbw1 := hbA.trans (hb1.mono hbA.size)
          clear CH hb1 d0 d1 d2 d3 hbA
          go_wp2
          go_ret
          exact ⟨ret_b (by simp [askN, HN.out]), hbw1⟩
      · obtain rfl : i = ps.length := by omega
        have HM : Hid (T.manyL x y (V.absL ps) = 0) := by have := hme.out; rwa [List.take_length] at this
        clear hme
        go_wp2
        go_ret
        exact ⟨ret_b (by simp [askN, HM.out]), hbw⟩

end Go.Proofs.YtpbmgbeiieapiaaGreatDoor
