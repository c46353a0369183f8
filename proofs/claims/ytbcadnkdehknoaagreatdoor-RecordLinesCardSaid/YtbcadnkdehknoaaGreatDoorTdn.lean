/-
  Layer 4: Depth and Nodes, the program's and the document's.
-/
import Derived.Test.YtbcadnkdehknoaaGreatDoorTcn
namespace Go.Proofs.YtbcadnkdehknoaaGreatDoor
open Go Go.RowKit
set_option linter.unusedVariables false

theorem Lies.small {w : World} {lo hi : Nat} {k : Int} {a b c : Nat} {A : Option Addr} {ps : List V} (h : Lies w lo hi (.node k a b A c ps)) (hc : (V.node k a b A c ps).abs.count ≤ 1000) {i : Nat} {p : V} (hp : ps[i]? = some p) : p.abs.count ≤ 1000 ∧ T.countL (V.absL (ps.take i)) + p.abs.count ≤ 1000 := by
  rw [V.count_node] at hc
  have := count_le hp
  omega

set_option maxRecDepth 100000 in
set_option maxHeartbeats 800000 in
theorem rdepth_any : ∀ (v : V) (w : World) (lo hi : Nat), Lies w lo hi v → hi ≤ w.heap.size → v.abs.count ≤ 1000 →
    Calls Tryz.prog 86 #[v.val] w fun e w' => e = .returned (.int .i64 (v.abs.depth : Nat)) ∧ Below w.heap.size w w' := by
  refine V.ind fun k a b A c ps ih w lo hi hL hhi hct => ?_
  obtain ⟨hlen, hcap', -, -, -⟩ := hL.caps
  have HL : Hid (∀ W, Below w.heap.size w W → Lies W lo hi (V.node k a b A c ps)) := fun W hW => hL.under (hW.mono hhi)
  have HS : Hid (∀ (i : Nat) (p : V), ps[i]? = some p → p.abs.count ≤ 1000 ∧ T.countL (V.absL (ps.take i)) + p.abs.count ≤ 1000) := fun i p hp => hL.small hct hp
  have IH : Hid (∀ p ∈ ps, ∀ (W : World), Lies W lo hi p → hi ≤ W.heap.size → p.abs.count ≤ 1000 → Calls Tryz.prog 86 #[p.val] W fun e w' => e = .returned (.int .i64 (p.abs.depth : Nat)) ∧ Below W.heap.size W w') := fun p hp W h2 h3 h4 => ih p hp W lo hi h2 h3 h4
  have hbx := heap_alloc_new w (.cells #[.int .i64 k, .int .u64 (a : Int), .int .u64 (b : Int), .slice A ps.length c] 36)
  have hb0 := below_new w (.cells #[.int .i64 k, .int .u64 (a : Int), .int .u64 (b : Int), .slice A ps.length c] 36)
  rw [V.depth_node]
  have hcn : 1 + T.countL (V.absL ps) ≤ 1000 := by rw [V.count_node] at hct; exact hct
  clear ih hL hct
  simp only [V.val, V.kind, V.a, V.b, V.sl, V.addr, V.parts, V.cap]
  go_enter Tryz.func86, Tryz.ntmps86
  go_wp2
  go_loopw [3, 4] (fun x y wr => ∃ (i acc : Nat), x = .int .i64 acc ∧ y = .int .i64 i ∧ i ≤ ps.length ∧ acc ≤ 1000 ∧ Hid (acc = T.depthL (V.absL (ps.take i))) ∧ wr.heap[w.heap.size]? = some (.cells #[.int .i64 k, .int .u64 (a : Int), .int .u64 (b : Int), .slice A ps.length c] 36 (0, 0)) ∧ Below w.heap.size w wr) (fun _ y _ => ps.length - (intOf y).toNat)
  case atStart => exact ⟨0, 0, rfl, rfl, Nat.zero_le _, by omega, Lib_hid (by simp [V.absL, T.depthL]), hbx, hb0⟩
  case round =>
    clear hbx hb0
    obtain ⟨i, acc, rfl, rfl, hi1, hacc, hae, hbx, hbw⟩ := hrel
    have c3 : wr.cell? ⟨w.heap.size, 3, none⟩ = some (.slice A ps.length c) := cell_of_row wr _ 3 _ _ _ hbx
    have hgl := (Array.getElem?_eq_some_iff.1 hbx).1
    by_cases hlt : i < ps.length
    · obtain ⟨bb, off, p, rfl, hbB, hlo, hp, hpl, d0, d1, d2, d3⟩ := (HL.out wr hbw).nth hlt
      have hsm := HS.out i p hp
      have hszw := hbw.size
      have CH := IH.out p (List.mem_of_getElem? hp) wr hpl (by omega) hsm.1
      have hnext := depthL_take hp
      have hdc := depth_le_count p.abs
      obtain ⟨d, hd⟩ : ∃ d, d = p.abs.depth := ⟨_, rfl⟩
      rw [← hd] at CH
      have hd1 : d ≤ 1000 := by omega
      have hd2 : d ≤ 1000 := by have := hae.out; omega
      have HN : Hid (max acc d = T.depthL (V.absL (ps.take (i + 1)))) := by
        have := hae.out
        unfold Hid
        rw [hd, hnext]
        omega
      cases p with
      | node pk pa pb pA pc pps =>
      simp only [V.val, V.kind, V.a, V.b, V.sl, V.addr, V.parts, V.cap] at CH d0 d1 d2 d3
      clear hnext hd hdc hae hp hpl hsm
      have hd3 : max acc d ≤ 1000 := by omega
      go_wp2_with fail
      refine CH.mono ?_
      rintro e w1 ⟨rfl, hb1⟩
      have hbx1 := (hb1.block _ hgl).trans hbx
      have hbw1 := hbw.trans (hb1.mono hbw.size)
      clear CH hb1 d0 d1 d2 d3
      go_wp2
      go_roundw
      case rel => exact ⟨i + 1, max acc d, by congr 1; split <;> omega, by go_num, by omega, hd3, HN, hbx1, hbw1⟩
      case measure => simp [intOf]; omega
    · obtain rfl : i = ps.length := by omega
      have hf : T.depthL (V.absL ps) + 1 = acc + 1 := by have := hae.out; rw [List.take_length] at this; omega
      have HF := Lib_hid hf
      clear hf hae
      go_wp2
      go_ret
      exact ⟨ret_i (by have := HF.out; omega), hbw⟩


set_option maxRecDepth 100000 in
set_option maxHeartbeats 800000 in
theorem rnodes_any : ∀ (v : V) (w : World) (lo hi : Nat), Lies w lo hi v → hi ≤ w.heap.size → v.abs.count ≤ 1000 →
    Calls Tryz.prog 87 #[v.val] w fun e w' => e = .returned (.int .i64 (v.abs.count : Nat)) ∧ Below w.heap.size w w' := by
  refine V.ind fun k a b A c ps ih w lo hi hL hhi hct => ?_
  obtain ⟨hlen, hcap', -, -, -⟩ := hL.caps
  have HL : Hid (∀ W, Below w.heap.size w W → Lies W lo hi (V.node k a b A c ps)) := fun W hW => hL.under (hW.mono hhi)
  have HS : Hid (∀ (i : Nat) (p : V), ps[i]? = some p → p.abs.count ≤ 1000 ∧ T.countL (V.absL (ps.take i)) + p.abs.count ≤ 1000) := fun i p hp => hL.small hct hp
  have IH : Hid (∀ p ∈ ps, ∀ (W : World), Lies W lo hi p → hi ≤ W.heap.size → p.abs.count ≤ 1000 → Calls Tryz.prog 87 #[p.val] W fun e w' => e = .returned (.int .i64 (p.abs.count : Nat)) ∧ Below W.heap.size W w') := fun p hp W h2 h3 h4 => ih p hp W lo hi h2 h3 h4
  have hbx := heap_alloc_new w (.cells #[.int .i64 k, .int .u64 (a : Int), .int .u64 (b : Int), .slice A ps.length c] 36)
  have hb0 := below_new w (.cells #[.int .i64 k, .int .u64 (a : Int), .int .u64 (b : Int), .slice A ps.length c] 36)
  rw [V.count_node]
  have hcn : 1 + T.countL (V.absL ps) ≤ 1000 := by rw [V.count_node] at hct; exact hct
  clear ih hL hct
  simp only [V.val, V.kind, V.a, V.b, V.sl, V.addr, V.parts, V.cap]
  go_enter Tryz.func87, Tryz.ntmps87
  go_wp2
  go_loopw [3, 4] (fun x y wr => ∃ (i acc : Nat), x = .int .i64 acc ∧ y = .int .i64 i ∧ i ≤ ps.length ∧ acc ≤ 1000 ∧ Hid (acc = 1 + T.countL (V.absL (ps.take i))) ∧ wr.heap[w.heap.size]? = some (.cells #[.int .i64 k, .int .u64 (a : Int), .int .u64 (b : Int), .slice A ps.length c] 36 (0, 0)) ∧ Below w.heap.size w wr) (fun _ y _ => ps.length - (intOf y).toNat)
  case atStart => exact ⟨0, 1, rfl, rfl, Nat.zero_le _, by omega, Lib_hid (by simp [V.absL, T.countL]), hbx, hb0⟩
  case round =>
    clear hbx hb0
    obtain ⟨i, acc, rfl, rfl, hi1, hacc, hae, hbx, hbw⟩ := hrel
    have c3 : wr.cell? ⟨w.heap.size, 3, none⟩ = some (.slice A ps.length c) := cell_of_row wr _ 3 _ _ _ hbx
    have hgl := (Array.getElem?_eq_some_iff.1 hbx).1
    by_cases hlt : i < ps.length
    · obtain ⟨bb, off, p, rfl, hbB, hlo, hp, hpl, d0, d1, d2, d3⟩ := (HL.out wr hbw).nth hlt
      have hsm := HS.out i p hp
      have hszw := hbw.size
      have CH := IH.out p (List.mem_of_getElem? hp) wr hpl (by omega) hsm.1
      have hnext := countL_take hp
      have hdc := depth_le_count p.abs
      obtain ⟨d, hd⟩ : ∃ d, d = p.abs.count := ⟨_, rfl⟩
      rw [← hd] at CH
      have hd1 : d ≤ 1000 := by omega
      have hd2 : acc + d ≤ 1001 := by have := hae.out; omega
      have HN : Hid (acc + d = 1 + T.countL (V.absL (ps.take (i + 1)))) := by
        have := hae.out
        unfold Hid
        rw [hd, hnext]
        omega
      cases p with
      | node pk pa pb pA pc pps =>
      simp only [V.val, V.kind, V.a, V.b, V.sl, V.addr, V.parts, V.cap] at CH d0 d1 d2 d3
      clear hnext hd hdc hae hp hpl hsm
      have hd3 : acc + d ≤ 1000 := by have := HN.out; have := countL_le_take ps (i + 1); omega
      go_wp2_with fail
      refine CH.mono ?_
      rintro e w1 ⟨rfl, hb1⟩
      have hbx1 := (hb1.block _ hgl).trans hbx
      have hbw1 := hbw.trans (hb1.mono hbw.size)
      clear CH hb1 d0 d1 d2 d3
      go_wp2
      go_roundw
      case rel => exact ⟨i + 1, acc + d, by go_num, by go_num, by omega, hd3, HN, hbx1, hbw1⟩
      case measure => simp [intOf]; omega
    · obtain rfl : i = ps.length := by omega
      have hf : 1 + T.countL (V.absL ps) = acc := by have := hae.out; rw [List.take_length] at this; omega
      have HF := Lib_hid hf
      clear hf hae
      go_wp2
      go_ret
      exact ⟨ret_i (by have := HF.out; omega), hbw⟩


end Go.Proofs.YtbcadnkdehknoaaGreatDoor
