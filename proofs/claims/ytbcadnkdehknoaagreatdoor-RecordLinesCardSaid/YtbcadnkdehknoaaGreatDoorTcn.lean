/-
  Layer 4: the statements' FewNodes; the document's Depth and Nodes.
-/
import Derived.Test.YtbcadnkdehknoaaGreatDoorTre
import Derived.Test.YtbcadnkdehknoaaGreatDoorHlp
import Derived.WalkSpells
namespace Go.Proofs.YtbcadnkdehknoaaGreatDoor
open Go Go.RowKit
set_option linter.unusedVariables false

/-- What is left of so many, when a tree has c nodes; -1: too few. -/
def nl (c : Nat) (left : Int) : Int := if (c : Int) ≤ left then left - c else -1
theorem nl_yes {c : Nat} {left : Int} (h : (c : Int) ≤ left) : nl c left = left - c := by unfold nl; rw [if_pos h]
theorem nl_no {c : Nat} {left : Int} (h : left < (c : Int)) : nl c left = -1 := by unfold nl; rw [if_neg (by omega)]

theorem ret_i {k : IntKind} {a b : Int} (h : a = b) : Ending.returned (.int k a) = .returned (.int k b) := by rw [h]
theorem ret_b {a b : Bool} (h : a = b) : Ending.returned (.bool a) = .returned (.bool b) := by rw [h]

theorem box_below {w W : World} {o : Obj} (h : Below (w.heap.size + 1) (w.alloc o) W) : Below w.heap.size w W := (below_new w o).trans (h.mono (Nat.le_succ _))

set_option maxRecDepth 100000 in
set_option maxHeartbeats 800000 in
theorem dnodes_any : ∀ (v : V) (left : Int) (w : World) (lo hi : Nat), Lies w lo hi v → hi ≤ w.heap.size → 0 ≤ left → left ≤ 1000 →
    Calls Tryz.prog 72 #[v.val, .int .i64 left] w fun e w' => e = .returned (.int .i64 (nl v.abs.count left)) ∧ Below w.heap.size w w' := by
  refine V.ind fun k a b A c ps ih left w lo hi hL hhi h0 h1 => ?_
  have hcount : (V.node k a b A c ps).abs.count = 1 + T.countL (V.absL ps) := by rw [V.abs, T.count]
  rw [hcount]
  obtain ⟨hlen, hcap', -, -, -⟩ := hL.caps
  have HL : Hid (∀ W, Below w.heap.size w W → Lies W lo hi (V.node k a b A c ps)) := fun W hW => hL.under (hW.mono hhi)
  have IH : Hid (∀ p ∈ ps, ∀ (W : World) (l : Int), Lies W lo hi p → hi ≤ W.heap.size → 0 ≤ l → l ≤ 1000 → Calls Tryz.prog 72 #[p.val, .int .i64 l] W fun e w' => e = .returned (.int .i64 (nl p.abs.count l)) ∧ Below W.heap.size W w') := fun p hp W l h2 h3 h4 h5 => ih p hp l W lo hi h2 h3 h4 h5
  have hbx := heap_alloc_new w (.cells #[.int .i64 k, .int .u64 (a : Int), .int .u64 (b : Int), .slice A ps.length c] 27)
  have hb0 := below_new w (.cells #[.int .i64 k, .int .u64 (a : Int), .int .u64 (b : Int), .slice A ps.length c] 27)
  have h00 : left - 1 = nl (1 + T.countL (V.absL (ps.take 0))) left ∨ left < 1 := by
    rcases Int.lt_or_le left 1 with h | h
    · exact .inr h
    · left; rw [nl_yes (by simp [V.absL, T.countL]; omega)]; simp [V.absL, T.countL]
  have HC := Lib_hid hcount
  clear ih hL hcount
  simp only [V.val, V.kind, V.a, V.b, V.sl, V.addr, V.parts, V.cap]
  go_enter Tryz.func72, Tryz.ntmps72
  go_wp2
  go_loopw [1, 5] (fun x y wr => ∃ (i : Nat) (L : Int), x = .int .i64 L ∧ y = .int .i64 i ∧ i ≤ ps.length ∧ Hid (L = nl (1 + T.countL (V.absL (ps.take i))) left) ∧ wr.heap[w.heap.size]? = some (.cells #[.int .i64 k, .int .u64 (a : Int), .int .u64 (b : Int), .slice A ps.length c] 27 (0, 0)) ∧ Below w.heap.size w wr) (fun _ y _ => ps.length - (intOf y).toNat)
  case atStart =>
    refine ⟨0, left - 1, rfl, rfl, Nat.zero_le _, ?_, hbx, hb0⟩
    unfold Hid
    simp only [List.take_zero, V.absL, T.countL]
    by_cases h : 1 ≤ left
    · rw [nl_yes (by omega)]; omega
    · rw [nl_no (by omega)]; omega
  case round =>
    clear hbx hb0 h00
    obtain ⟨i, L, rfl, rfl, hi1, hLe, hbx, hbw⟩ := hrel
    have c3 : wr.cell? ⟨w.heap.size, 3, none⟩ = some (.slice A ps.length c) := cell_of_row wr _ 3 _ _ _ hbx
    have hgl := (Array.getElem?_eq_some_iff.1 hbx).1
    have hnl : L = left - (1 + T.countL (V.absL (ps.take i)) : Nat) ∧ ((1 + T.countL (V.absL (ps.take i)) : Nat) : Int) ≤ left ∨ L = -1 ∧ left < ((1 + T.countL (V.absL (ps.take i)) : Nat) : Int) := by
      rcases Int.lt_or_le left ((1 + T.countL (V.absL (ps.take i)) : Nat) : Int) with h | h
      · exact .inr ⟨hLe.out.trans (nl_no h), h⟩
      · exact .inl ⟨hLe.out.trans (nl_yes h), h⟩
    by_cases hlt : i < ps.length
    · obtain ⟨bb, off, p, rfl, hbB, hlo, hp, hpl, d0, d1, d2, d3⟩ := (HL.out wr hbw).nth hlt
      have hct := countL_take hp
      have hcl := count_le hp
      rcases hnl with ⟨hL1, hL2⟩ | ⟨hL1, hL2⟩
      · have hL0 : 0 ≤ L := by omega
        have CH := IH.out p (List.mem_of_getElem? hp) wr L hpl (by omega) hL0 (by omega)
        have hnext : nl p.abs.count L = nl (1 + T.countL (V.absL (ps.take (i + 1)))) left := by
          rw [hct]
          rcases Int.lt_or_le L (p.abs.count : Int) with h | h
          · rw [nl_no h, nl_no (by omega)]
          · rw [nl_yes h, nl_yes (by omega)]; omega
        have HN := Lib_hid hnext
        obtain ⟨M, hM⟩ : ∃ M, M = nl p.abs.count L := ⟨_, rfl⟩
        rw [← hM] at CH
        have HM := Lib_hid hM
        cases p with
        | node pk pa pb pA pc pps =>
        simp only [V.val, V.kind, V.a, V.b, V.sl, V.addr, V.parts, V.cap] at CH d0 d1 d2 d3
        clear hct hcl hnext hM hLe hp hpl hL1
        go_wp2_with fail
        refine CH.mono ?_
        rintro e w1 ⟨rfl, hb1⟩
        have hbx1 := (hb1.block _ hgl).trans hbx
        have hbw1 := hbw.trans (hb1.mono hbw.size)
        clear CH hb1 d0 d1 d2 d3
        go_wp2
        go_roundw
        case rel => exact ⟨i + 1, M, rfl, by go_num, by omega, Lib_hid (HM.out.trans HN.out), hbx1, hbw1⟩
        case measure => simp [intOf]; omega
      · subst hL1
        have HF := Lib_hid (show nl (1 + T.countL (V.absL ps)) left = -1 from nl_no (by omega))
        clear hct hcl hp hpl hLe d0 d1 d2 d3
        go_wp2
        go_ret
        exact ⟨ret_i HF.out.symm, hbw⟩
    · obtain rfl : i = ps.length := by omega
      have hf : L = nl (1 + T.countL (V.absL ps)) left := by have := hLe.out; rwa [List.take_length] at this
      have HF := Lib_hid hf
      clear hnl hf hLe
      go_wp2
      all_goals
        go_ret
        exact ⟨ret_i HF.out, hbw⟩

end Go.Proofs.YtbcadnkdehknoaaGreatDoor
