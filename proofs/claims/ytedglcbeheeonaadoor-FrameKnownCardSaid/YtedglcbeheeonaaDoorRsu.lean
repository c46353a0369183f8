/-
  The contract of the document's Sum: the remainder of the division is the check.
-/
import Derived.Test.YtedglcbeheeonaaDoorDig
import Derived.Test.YtedglcbeheeonaaDoorCmd
import Derived.BigRegion
import Derived.OneCell
import Derived.Lib.SmallJoins
namespace Go.Proofs.YtedglcbeheeonaaDoor
open Go Go.RowKit
set_option linter.unusedVariables false

def powCells : Array Value := #[.int .i64 26, .int .i64 23, .int .i64 22, .int .i64 16, .int .i64 12, .int .i64 11, .int .i64 10, .int .i64 8, .int .i64 7, .int .i64 5, .int .i64 4, .int .i64 2, .int .i64 1, .int .i64 0]
theorem powCells_get (t : Nat) (h : t < 14) : powCells[t]? = some (.int .i64 (pows.getD t 0 : Nat)) := by
  match t, h with
  | 0, _ => rfl
  | 1, _ => rfl
  | 2, _ => rfl
  | 3, _ => rfl
  | 4, _ => rfl
  | 5, _ => rfl
  | 6, _ => rfl
  | 7, _ => rfl
  | 8, _ => rfl
  | 9, _ => rfl
  | 10, _ => rfl
  | 11, _ => rfl
  | 12, _ => rfl
  | 13, _ => rfl

theorem powers_any (w : World) : Calls Tryd.prog 36 #[] w fun e w' => e = .returned (.slice (some ⟨w.heap.size, 0, none⟩) 14 14) ∧ w' = w.alloc (.cells powCells 3) := by
  go_enter Tryd.func36, Tryd.ntmps36
  go_wp2
  go_ret
  exact ⟨rfl, rfl⟩

theorem bbs_get {m : List Bool} {j : Nat} (h : j < m.length) : (bbs m)[j]? = some (.bool (m.getD j false)) := by
  simp [bbs, h, List.getD_eq_getElem?_getD]
theorem bbs_set (m : List Bool) (k : Nat) (x : Bool) : bbs (m.set k x) = (bbs m).set k (.bool x) := by simp [bbs, List.map_set]
theorem own_bit {w : World} {base g cap n : Nat} {e : TypeId} {m : List Bool} (h : w.ownsRow base e 1 (.slice (some ⟨g, 0, none⟩) n cap) n (bbs m)) {k : Nat} (hk : k < n) : w.cell? ⟨g, k, none⟩ = some (.bool (m.getD k false)) := by
  have hl : m.length = n := by have := h.1; rw [bbs_length] at this; omega
  rw [h.cellAt k (by omega), bbs_get (by omega)]

set_option maxRecDepth 100000 in
theorem rsum_any (B : Nat) (A : Option Addr) (n c : Nat) (l : List Nat) (w : World) (hr : Rd w B 1 A n (bs l)) (hb : ∀ x ∈ l, x < 256) (hB : B ≤ w.heap.size) (hn : n ≤ 1000000000) :
    Calls Tryd.prog 27 #[.slice A n c] w fun e w' => e = .returned (.int .u32 (crcN l : Nat)) ∧ Below w.heap.size w w' := by
  have G1 := rdigits_any B A n c l w hr hb hB hn
  have hl := hr.count
  subst hl
  obtain ⟨i0, hi, hz0, hz1, hz2⟩ := info_parts Tryd.infoBool
  have hm1 : 8 * l.length + 32 ≤ maxLen := by unfold maxLen; omega
  have hm2 : (8 * l.length + 32) * 1 ≤ 140737488355328 := by omega
  have ZR := fun (wx : World) (v : Value) (xs : List Value) (ty : TypeId) (ho : wx.ownsRow w.heap.size 4 1 v (8 * l.length) xs) (hbase : w.heap.size ≤ wx.heap.size) =>
    run_app_zeros (P := Tryd.prog) wx w.heap.size 81 3 ty 4 i0 (.bool false) 1 .i64 .i64 Tryd.underlying81 Tryd.underlying3 hi hz0 hz1 hz2 rfl rfl v (8 * l.length) xs ho 32 (by decide) hm1 hm2 hbase
  have HZ := Lib_hid ZR
  have HB := Lib_hid hb
  clear ZR hr hb
  go_enter Tryd.func27, Tryd.ntmps27
  go_wp2_with fail
  refine G1.mono ?_
  rintro e w1 ⟨A1, c1, rfl, ho1, hb1⟩
  clear G1
  obtain ⟨v2, w2, hrun, ho2, hst2⟩ := HZ.out w1 _ _ 81 ho1 hb1.size
  have hb2 := hb1.trans (hst2.below hb1.size (own_ge ho1))
  obtain ⟨g, cap, hv, _, hglt⟩ := ho2.form (by omega)
  subst hv
  have hrow := row_start (digits l)
  rw [← turned_zero, digits_length] at hrow
  rw [show bbs (digits l) ++ List.replicate 32 (Value.bool false) = bbs (digits l ++ List.replicate 32 false) by simp [bbs]] at ho2
  have hgw := own_ge ho2 g rfl
  clear ho1 hst2 hb1
  go_wp2_with (at_builtin; refine Lib.wpList_append_run _ rfl _ _ _ _ rfl _ _ rfl rfl _ _ hrun ?_)
  clear hrun
  go_wp2
  go_loopw [4] (fun i wr => ∃ (k : Nat) (m : List Bool), i = .int .i64 k ∧ k ≤ 32 ∧ RowIs m (8 * l.length + 32) (turned (digits l) k) ∧ wr.ownsRow w.heap.size 4 1 (.slice (some ⟨g, 0, none⟩) (8 * l.length + 32) cap) (8 * l.length + 32) (bbs m) ∧ Below w.heap.size w wr) (fun i _ => 32 - (intOf i).toNat)
  case atStart => exact ⟨0, _, rfl, by omega, hrow, ho2, hb2⟩
  case round =>
    obtain ⟨k, m, rfl, hk, hR, ho, hbw⟩ := hrel
    by_cases hlt : k < 32
    · have hcell := own_bit ho (k := k) (by omega)
      have hfr := ho.frozenAt k
      have hR2 := turned_step hR (k := k) (by omega)
      have ⟨hs1, hs2⟩ := ho.stored k (.bool (!m.getD k false))
      rw [← bbs_set] at hs1
      have hbw2 := hbw.grown hs2 hbw.size (own_ge ho)
      have HR := Lib_hid hR
      have HR2 := Lib_hid hR2
      have HO := Lib_hid hs1
      have HBW := Lib_hid hbw2
      clear hR hR2 hs1 hs2 ho hbw2 hrow ho2
      generalize m.getD k false = b at *
      go_wp2
      go_roundw
      case rel => exact ⟨k + 1, _, by go_num, by omega, HR2.out, HO.out, HBW.out⟩
      case measure => simp [intOf]; omega
    · obtain rfl : k = 32 := by omega
      have hR0 := turned_end hR
      clear hR hrow ho2 hb2 hglt
      go_wp2_with fail
      refine (powers_any wr).mono ?_
      rintro e w3 ⟨rfl, rfl⟩
      have hpb : (wr.alloc (.cells powCells 3)).heap[wr.heap.size]? = some (.cells powCells 3 (0, 0)) := heap_alloc_new _ _
      have hgl := own_lt ho g rfl
      have ho3 := ho.alloc (.cells powCells 3)
      have hbw3 := hbw.alloc hbw.size (.cells powCells 3)
      obtain ⟨gp, hgp⟩ : ∃ gp, gp = wr.heap.size := ⟨_, rfl⟩
      rw [← hgp] at hpb hgl ⊢
      generalize wr.alloc (.cells powCells 3) = w4 at *
      clear hgp ho hbw
      go_wp2
      go_loopw [7] (fun i wr => ∃ (k : Nat) (m : List Bool), i = .int .i64 k ∧ k ≤ 8 * l.length ∧ RowIs m (8 * l.length + 32) (crow (digits l) k) ∧ wr.ownsRow w.heap.size 4 1 (.slice (some ⟨g, 0, none⟩) (8 * l.length + 32) cap) (8 * l.length + 32) (bbs m) ∧ wr.heap[gp]? = some (.cells powCells 3 (0, 0)) ∧ Below w.heap.size w wr) (fun i _ => 8 * l.length - (intOf i).toNat)
      case atStart => exact ⟨0, m, rfl, by omega, hR0, ho3, hpb, hbw3⟩
      case round =>
        clear hR0 ho3 hpb hbw3
        obtain ⟨k, m, rfl, hk, hR, ho, hpb, hbw⟩ := hrel
        by_cases hlt : k < 8 * l.length
        · have hdl : k < (digits l).length := by rw [digits_length]; exact hlt
          have hcell := own_bit ho (k := k) (by omega)
          have hbit := hR.2 k (by omega)
          cases hb : m.getD k false with
          | false =>
            rw [hb] at hcell
            have hR2 := Lib_hid (crow_keep hR hdl (by omega) hb)
            clear hR hbit hb
            go_wp2
            go_roundw
            case rel => exact ⟨k + 1, m, by go_num, by omega, hR2.out, ho, hpb, hbw⟩
            case measure => simp [intOf]; omega
          | true =>
            rw [hb] at hcell hbit
            have hfr := ho.frozenAt k
            have hR2 := midrow_start hR (i := k) (by omega)
            have ⟨hs1, hs2⟩ := ho.stored k (.bool false)
            rw [← bbs_set] at hs1
            have hbw2 := hbw.grown hs2 hbw.size (own_ge ho)
            have hpb2 := (hs2.block gp (lt_of_block hpb) (by intro e; injection e with e; omega)).trans hpb
            have HBT := Lib_hid hbit.symm
            have HR2 := Lib_hid hR2
            have HO := Lib_hid hs1
            have HBW := Lib_hid hbw2
            have HPB := Lib_hid hpb2
            clear hR hR2 hs1 hs2 ho hbw2 hpb2 hbit hb hbw hpb
            generalize m.set k false = m2 at *
            go_wp2
            go_loopw [8] (fun j wr => ∃ (t : Nat) (m : List Bool), j = .int .i64 t ∧ t ≤ 14 ∧ RowIs m (8 * l.length + 32) (midrow (digits l) k (pows.take t)) ∧ wr.ownsRow w.heap.size 4 1 (.slice (some ⟨g, 0, none⟩) (8 * l.length + 32) cap) (8 * l.length + 32) (bbs m) ∧ wr.heap[gp]? = some (.cells powCells 3 (0, 0)) ∧ Below w.heap.size w wr) (fun j _ => 14 - (intOf j).toNat)
            case atStart => exact ⟨0, m2, rfl, by omega, HR2.out, HO.out, HPB.out, HBW.out⟩
            case round =>
              clear HR2 HO HPB HBW
              obtain ⟨t, m, rfl, ht, hR, ho, hpb, hbw⟩ := hrel
              by_cases ht14 : t < 14
              · have hp26 := pows_le t
                have cp : _ := Joins.cell_of_block hpb t
                rw [powCells_get t ht14] at cp
                have hR2 := midrow_step hR (p := pows.getD t 0) (by omega) (by omega)
                rw [← pows_next ht14] at hR2
                generalize pows.getD t 0 = p at *
                have eq : (k : Int) + 32 - p = ((k + 32 - p : Nat) : Int) := by omega
                have hqN : k + 32 - p < 8 * l.length + 32 := by omega
                have hcell2 := own_bit ho hqN
                have hfr2 := ho.frozenAt (k + 32 - p)
                have ⟨hs1, hs2⟩ := ho.stored (k + 32 - p) (.bool (!m.getD (k + 32 - p) false))
                rw [← bbs_set] at hs1
                have hbw2 := hbw.grown hs2 hbw.size (own_ge ho)
                have hpb2 := (hs2.block gp (lt_of_block hpb) (by intro e; injection e with e; omega)).trans hpb
                have HR2 := Lib_hid hR2
                have HO := Lib_hid hs1.drew
                have HBW := Lib_hid hbw2.drew
                have HPB := Lib_hid hpb2
                have hq0 : (0 : Int) ≤ ((k + 32 - p : Nat) : Int) := by omega
                clear hR hR2 hs1 hs2 ho hbw2 hpb2 hbw hpb
                generalize m.getD (k + 32 - p) false = b at *
                generalize k + 32 - p = q at *
                go_wp2
                go_region
                go_wp2
                go_roundw
                case rel => exact ⟨t + 1, _, by go_num, by omega, HR2.out, HO.out, HPB.out, HBW.out⟩
                case measure => simp [intOf]; omega
              · obtain rfl : t = 14 := by omega
                have hR2 := Lib_hid (midrow_end hR hdl HBT.out)
                clear hR
                go_wp2
                go_roundw
                case rel => exact ⟨k + 1, m, by go_num, by omega, hR2.out, ho, hpb, hbw⟩
                case measure => simp [intOf]; omega
        · obtain rfl : k = 8 * l.length := by omega
          have hlt32 := crcN_lt l
          have HRB := Lib_hid hR
          clear hR
          go_wp2
          go_loop [9, 10] (fun s i => ∃ k : Nat, k ≤ 32 ∧ i = .int .i64 ((k : Int) - 1) ∧ s = .int .u32 ((crcN l / 2 ^ k : Nat) : Int)) (fun _ i => ((intOf i) + 1).toNat)
          case atStart => exact ⟨32, by omega, rfl, by rw [Nat.div_eq_of_lt hlt32]; rfl⟩
          case round =>
            obtain ⟨k, hk, rfl, rfl⟩ := hrel
            cases k with
            | zero =>
              rw [show (((0 : Nat) : Int) - 1) = -1 from rfl, Nat.pow_zero, Nat.div_one]
              generalize EV : crcN l = v at *
              have HV := Lib_hid EV
              clear EV
              go_wp2
              go_ret
              exact ⟨by rw [HV.out]; rfl, hbw⟩
            | succ j =>
              rw [show (((j + 1 : Nat) : Int) - 1) = (j : Int) by omega]
              have hbit := row_bit HB.out HRB.out (k := j) (by omega)
              have hcell := own_bit ho (k := 8 * l.length + j) (by omega)
              have hnx := Lib_hid (bit_next (crcN l) j)
              have hs31 : crcN l / 2 ^ (j + 1) * 2 ≤ crcN l := by
                rw [Nat.pow_succ, ← Nat.div_div_eq_div_mul]
                have := Nat.div_le_self (crcN l) (2 ^ j)
                omega
              obtain ⟨q, hq⟩ : ∃ q, q = 8 * l.length + j := ⟨_, rfl⟩
              rw [← hq] at hcell hbit
              have eq : (8 * (l.length : Int) + j) = (q : Int) := by omega
              have hql : q < 8 * l.length + 32 := by omega
              clear hq
              cases hb : m.getD q false with
              | true =>
                rw [hb] at hcell hbit
                have HNB : Hid (crcN l / 2 ^ j = crcN l / 2 ^ (j + 1) * 2) := by
                  unfold Hid
                  rw [hnx.out, ← hbit]; simp
                clear hb hbit hnx
                generalize crcN l / 2 ^ (j + 1) = s1 at *
                go_wp2
                go_round
                case rel => exact ⟨j, by omega, rfl, by rw [HNB.out]; go_num⟩
                case measure => simp [intOf]
              | false =>
                rw [hb] at hcell hbit
                have HNB : Hid (crcN l / 2 ^ j = crcN l / 2 ^ (j + 1) * 2 + 1) := by
                  unfold Hid
                  rw [hnx.out, ← hbit]; simp
                have hs32 : crcN l / 2 ^ (j + 1) * 2 + 1 ≤ crcN l := by rw [← HNB.out]; exact Nat.div_le_self _ _
                clear hb hbit hnx
                generalize crcN l / 2 ^ (j + 1) = s1 at *
                go_wp2
                go_round
                case rel => exact ⟨j, by omega, rfl, by rw [HNB.out]; go_num⟩
                case measure => simp [intOf]

end Go.Proofs.YtedglcbeheeonaaDoor
