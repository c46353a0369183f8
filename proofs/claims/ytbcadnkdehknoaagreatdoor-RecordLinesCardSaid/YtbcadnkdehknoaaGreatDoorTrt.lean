/-
  Layer 4: Right, the document's.
-/
import Derived.Test.YtbcadnkdehknoaaGreatDoorTnd
import Derived.Test.YtbcadnkdehknoaaGreatDoorTdn
namespace Go.Proofs.YtbcadnkdehknoaaGreatDoor
open Go Go.RowKit
set_option linter.unusedVariables false

mutual
def T.allB : T → Bool
  | .node k a b ps => T.allL ps && fitsB k a b ps.length
def T.allL : List T → Bool
  | [] => true
  | p :: ps => p.allB && T.allL ps
end
def T.rightB (t : T) : Bool := t.allB && decide (t.depth ≤ 8) && decide (t.count ≤ 32)
theorem allL_append : ∀ (xs ys : List T), T.allL (xs ++ ys) = (T.allL xs && T.allL ys)
  | [], ys => by simp [T.allL]
  | x :: xs, ys => by rw [List.cons_append, T.allL, T.allL, allL_append xs ys, Bool.and_assoc]
theorem allL_take {ps : List V} {i : Nat} {p : V} (h : ps[i]? = some p) : T.allL (V.absL (ps.take (i + 1))) = (T.allL (V.absL (ps.take i)) && p.abs.allB) := by
  rw [absL_take h, allL_append]; simp [T.allL]
theorem allL_bad {ps : List V} {i : Nat} {p : V} (h : ps[i]? = some p) (hb : p.abs.allB = false) : T.allL (V.absL ps) = false := by
  have h2 := List.take_append_drop (i + 1) ps
  have : T.allL (V.absL ps) = (T.allL (V.absL (ps.take (i + 1))) && T.allL (V.absL (ps.drop (i + 1)))) := by
    conv => lhs; rw [← h2]
    rw [absL_map, List.map_append, allL_append, ← absL_map, ← absL_map]
  rw [this, allL_take h, hb]; simp
theorem V.all_node (k : Int) (a b : Nat) (A : Option Addr) (c : Nat) (ps : List V) : (V.node k a b A c ps).abs.allB = (T.allL (V.absL ps) && fitsB k a b ps.length) := by rw [V.abs, T.allB, absL_length]

set_option maxRecDepth 100000 in
set_option maxHeartbeats 800000 in
theorem rall_any : ∀ (v : V) (w : World) (lo hi : Nat), Lies w lo hi v → hi ≤ w.heap.size →
    Calls Tryz.prog 85 #[v.val] w fun e w' => e = .returned (.bool v.abs.allB) ∧ Below w.heap.size w w' := by
  refine V.ind fun k a b A c ps ih w lo hi hL hhi => ?_
  obtain ⟨hlen, hcap', -, -, -⟩ := hL.caps
  have HL : Hid (∀ W, Below w.heap.size w W → Lies W lo hi (V.node k a b A c ps)) := fun W hW => hL.under (hW.mono hhi)
  have IH : Hid (∀ p ∈ ps, ∀ (W : World), Lies W lo hi p → hi ≤ W.heap.size → Calls Tryz.prog 85 #[p.val] W fun e w' => e = .returned (.bool p.abs.allB) ∧ Below W.heap.size W w') := fun p hp W h2 h3 => ih p hp W lo hi h2 h3
  have hbx := heap_alloc_new w (.cells #[.int .i64 k, .int .u64 (a : Int), .int .u64 (b : Int), .slice A ps.length c] 36)
  have hb0 := below_new w (.cells #[.int .i64 k, .int .u64 (a : Int), .int .u64 (b : Int), .slice A ps.length c] 36)
  rw [V.all_node]
  clear ih hL
  simp only [V.val, V.kind, V.a, V.b, V.sl, V.addr, V.parts, V.cap]
  go_enter Tryz.func85, Tryz.ntmps85
  go_wp2
  go_loopw [3] (fun y wr => ∃ (i : Nat), y = .int .i64 i ∧ i ≤ ps.length ∧ Hid (T.allL (V.absL (ps.take i)) = true) ∧ wr.heap[w.heap.size]? = some (.cells #[.int .i64 k, .int .u64 (a : Int), .int .u64 (b : Int), .slice A ps.length c] 36 (0, 0)) ∧ Below w.heap.size w wr) (fun y _ => ps.length - (intOf y).toNat)
  case atStart => exact ⟨0, rfl, Nat.zero_le _, Lib_hid (by simp [V.absL, T.allL]), hbx, hb0⟩
  case round =>
    clear hbx hb0
    obtain ⟨i, rfl, hi1, hae, hbx, hbw⟩ := hrel
    have hgl := (Array.getElem?_eq_some_iff.1 hbx).1
    have c0 : wr.cell? ⟨w.heap.size, 0, none⟩ = some (.int .i64 k) := cell_of_row wr _ 0 _ _ _ hbx
    have c1 : wr.cell? ⟨w.heap.size, 1, none⟩ = some (.int .u64 (a : Int)) := cell_of_row wr _ 1 _ _ _ hbx
    have c2 : wr.cell? ⟨w.heap.size, 2, none⟩ = some (.int .u64 (b : Int)) := cell_of_row wr _ 2 _ _ _ hbx
    have c3 : wr.cell? ⟨w.heap.size, 3, none⟩ = some (.slice A ps.length c) := cell_of_row wr _ 3 _ _ _ hbx
    by_cases hlt : i < ps.length
    · obtain ⟨bb, off, p, rfl, hbB, hlo, hp, hpl, d0, d1, d2, d3⟩ := (HL.out wr hbw).nth hlt
      have hszw := hbw.size
      have CH := IH.out p (List.mem_of_getElem? hp) wr hpl (by omega)
      cases hpa : p.abs.allB with
      | true =>
        have HN : Hid (T.allL (V.absL (ps.take (i + 1))) = true) := by unfold Hid; rw [allL_take hp, hae.out, hpa]; rfl
        rw [hpa] at CH
        cases p with
        | node pk pa pb pA pc pps =>
        simp only [V.val, V.kind, V.a, V.b, V.sl, V.addr, V.parts, V.cap] at CH d0 d1 d2 d3
        clear hpa hae hp hpl
        go_wp2_with fail
        refine CH.mono ?_
        rintro e w1 ⟨rfl, hb1⟩
        have hbx1 := (hb1.block _ hgl).trans hbx
        have hbw1 := hbw.trans (hb1.mono hbw.size)
        clear CH hb1 d0 d1 d2 d3 c0 c1 c2 c3
        go_wp2
        go_roundw
        case rel => exact ⟨i + 1, by go_num, by omega, HN, hbx1, hbw1⟩
        case measure => simp [intOf]; omega
      | false =>
        have HF : Hid ((T.allL (V.absL ps) && fitsB k a b ps.length) = false) := by unfold Hid; rw [allL_bad hp hpa]; rfl
        rw [hpa] at CH
        cases p with
        | node pk pa pb pA pc pps =>
        simp only [V.val, V.kind, V.a, V.b, V.sl, V.addr, V.parts, V.cap] at CH d0 d1 d2 d3
        clear hpa hae hp hpl
        go_wp2_with fail
        refine CH.mono ?_
        rintro e w1 ⟨rfl, hb1⟩
        have hbw1 := hbw.trans (hb1.mono hbw.size)
        clear CH hb1 d0 d1 d2 d3 c0 c1 c2 c3
        go_wp2
        go_ret
        exact ⟨ret_b HF.out.symm, hbw1⟩
    · obtain rfl : i = ps.length := by omega
      have HF : Hid (fitsB k a b ps.length = (T.allL (V.absL ps) && fitsB k a b ps.length)) := by
        have := hae.out
        rw [List.take_length] at this
        unfold Hid
        rw [this]; rfl
      have ND := node_any k a b ps.length c A wr
      clear hae
      go_wp2_with fail
      refine ND.mono ?_
      rintro e w1 ⟨rfl, hb1⟩
      have hbw1 := hbw.trans (hb1.mono hbw.size)
      clear ND hb1
      go_wp2
      go_ret
      exact ⟨ret_b HF.out, hbw1⟩

set_option maxRecDepth 100000 in
set_option maxHeartbeats 800000 in
theorem rright_any (v : V) (w : World) (lo hi : Nat) (hL : Lies w lo hi v) (hhi : hi ≤ w.heap.size) (hct : v.abs.count ≤ 1000) :
    Calls Tryz.prog 51 #[v.val] w fun e w' => e = .returned (.bool v.abs.rightB) ∧ Below w.heap.size w w' := by
  have HT : Hid (v.abs.rightB = (v.abs.allB && decide (v.abs.depth ≤ 8) && decide (v.abs.count ≤ 32))) := Lib_hid rfl
  have hdc := depth_le_count v.abs
  have RA : Hid (∀ W, Below w.heap.size w W → Calls Tryz.prog 85 #[v.val] W fun e w' => e = .returned (.bool v.abs.allB) ∧ Below W.heap.size W w') := fun W hW => rall_any v W lo hi (hL.under (hW.mono hhi)) (by have := hW.size; omega)
  have RD : Hid (∀ W, Below w.heap.size w W → Calls Tryz.prog 86 #[v.val] W fun e w' => e = .returned (.int .i64 (v.abs.depth : Nat)) ∧ Below W.heap.size W w') := fun W hW => rdepth_any v W lo hi (hL.under (hW.mono hhi)) (by have := hW.size; omega) hct
  have RN : Hid (∀ W, Below w.heap.size w W → Calls Tryz.prog 87 #[v.val] W fun e w' => e = .returned (.int .i64 (v.abs.count : Nat)) ∧ Below W.heap.size W w') := fun W hW => rnodes_any v W lo hi (hL.under (hW.mono hhi)) (by have := hW.size; omega) hct
  obtain ⟨al, hal⟩ : ∃ al, al = v.abs.allB := ⟨_, rfl⟩
  obtain ⟨dp, hdp⟩ : ∃ dp, dp = v.abs.depth := ⟨_, rfl⟩
  obtain ⟨ct, hct2⟩ : ∃ ct, ct = v.abs.count := ⟨_, rfl⟩
  rw [← hal] at RA HT
  rw [← hdp] at RD HT hdc
  rw [← hct2] at RN HT hdc hct
  obtain ⟨rt, hrt⟩ : ∃ rt, rt = v.abs.rightB := ⟨_, rfl⟩
  rw [← hrt] at HT ⊢
  cases v with
  | node k a b A c ps =>
  simp only [V.val, V.kind, V.a, V.b, V.sl, V.addr, V.parts, V.cap] at RA RD RN ⊢
  have hb0 := below_new w (.cells #[.int .i64 k, .int .u64 (a : Int), .int .u64 (b : Int), .slice A ps.length c] 36)
  have hbx := heap_alloc_new w (.cells #[.int .i64 k, .int .u64 (a : Int), .int .u64 (b : Int), .slice A ps.length c] 36)
  have R1 := RA.out _ hb0
  have KC : Hid (∀ W, Below (w.heap.size + 1) (w.alloc (.cells #[.int .i64 k, .int .u64 (a : Int), .int .u64 (b : Int), .slice A ps.length c] 36)) W → W.cell? ⟨w.heap.size, 0, none⟩ = some (.int .i64 k) ∧ W.cell? ⟨w.heap.size, 1, none⟩ = some (.int .u64 (a : Int)) ∧ W.cell? ⟨w.heap.size, 2, none⟩ = some (.int .u64 (b : Int)) ∧ W.cell? ⟨w.heap.size, 3, none⟩ = some (.slice A ps.length c)) := fun W hW => by
    have := (hW.block w.heap.size (by omega)).trans hbx
    exact ⟨cell_of_row W _ 0 _ _ _ this, cell_of_row W _ 1 _ _ _ this, cell_of_row W _ 2 _ _ _ this, cell_of_row W _ 3 _ _ _ this⟩
  clear hL hal hdp hct2 hrt hbx
  go_enter Tryz.func51, Tryz.ntmps51
  go_wp2_with fail
  refine R1.mono ?_
  rintro e w1 ⟨rfl, hb1⟩
  have hb1' : Below (w.heap.size + 1) _ w1 := hb1.mono (by simp)
  obtain ⟨c0, c1, c2, c3⟩ := KC.out w1 hb1'
  have hbw1 := hb0.trans (hb1.mono hb0.size)
  have R2 := RD.out w1 hbw1
  clear R1 hb1
  cases al with
  | false =>
    have HF : Hid (false = rt) := by rw [HT.out]; exact Lib_hid rfl
    clear R2 c0 c1 c2 c3
    go_wp2
    go_ret
    exact ⟨ret_b HF.out, hbw1⟩
  | true =>
    go_wp2_with fail
    refine R2.mono ?_
    rintro e w2 ⟨rfl, hb2⟩
    have hb2' := hb1'.trans (hb2.mono (by have := hb1'.size; simpa using this))
    obtain ⟨e0, e1, e2, e3⟩ := KC.out w2 hb2'
    have hbw2 := hbw1.trans (hb2.mono hbw1.size)
    have R3 := RN.out w2 hbw2
    clear R2 hb2 c0 c1 c2 c3
    by_cases hd8 : dp ≤ 8
    · have hd : decide ((dp : Int) ≤ 8) = true := by simp; omega
      go_wp2_with fail
      refine R3.mono ?_
      rintro e w3 ⟨rfl, hb3⟩
      have hbw3 := hbw2.trans (hb3.mono hbw2.size)
      clear R3 hb3 e0 e1 e2 e3
      by_cases hc32 : ct ≤ 32
      · have hc : decide ((ct : Int) ≤ 32) = true := by simp; omega
        have HF : Hid (true = rt) := by rw [HT.out]; unfold Hid; simp; omega
        clear hd8 hc32
        go_wp2
        go_ret
        exact ⟨ret_b HF.out, hbw3⟩
      · have hc : decide ((ct : Int) ≤ 32) = false := by simp; omega
        have HF : Hid (false = rt) := by rw [HT.out]; unfold Hid; simp; omega
        clear hd8 hc32
        go_wp2
        go_ret
        exact ⟨ret_b HF.out, hbw3⟩
    · have hd : decide ((dp : Int) ≤ 8) = false := by simp; omega
      have HF : Hid (false = rt) := by rw [HT.out]; unfold Hid; simp; omega
      clear R3 e0 e1 e2 e3 hd8
      go_wp2
      go_ret
      exact ⟨ret_b HF.out, hbw2⟩

end Go.Proofs.YtbcadnkdehknoaaGreatDoor
