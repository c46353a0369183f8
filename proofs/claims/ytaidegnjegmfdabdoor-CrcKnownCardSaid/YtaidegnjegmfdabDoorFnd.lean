/-
  The statement's function CrcFinds returns true, for every input.
-/
import Derived.Test.YtaidegnjegmfdabDoorWrk
import Derived.Test.YtaidegnjegmfdabDoorPik
import Derived.Deep.LoopGhost
import Derived.Deep.CutBlock
namespace Go.Proofs.YtaidegnjegmfdabDoor
open Go Go.RowKit
set_option linter.unusedVariables false

theorem bs_set (m : List Nat) (k x : Nat) : bs (m.set k x) = (bs m).set k (.int .u8 (x : Int)) := by simp [bs, List.map_set]
theorem xor_bit {x r : Nat} (hx : x < 256) (hr : r < 8) : bits BinOp.xor IntKind.u8 (x : Int) (2 ^ r % 256) = ((x ^^^ 2 ^ r : Nat) : Int) := by
  have h : 2 ^ r < 256 := Nat.pow_lt_pow_right (a := 2) (by decide) hr
  have e : ((2 : Int) ^ r % 256) = ((2 ^ r : Nat) : Int) := by
    rw [show (2 : Int) ^ r = ((2 ^ r : Nat) : Int) by simp]
    generalize 2 ^ r = y at h
    omega
  rw [e, u8_xor_nat x _ hx h]

set_option maxRecDepth 100000 in
theorem finds_any (B : Nat) (A : Option Addr) (n c : Nat) (l : List Nat) (a : Int) (d : Nat) (w : World) (hT : Tab w) (hr : Rd w B 1 A n (bs l)) (hb : ∀ x ∈ l, x < 256) (hnc : n ≤ c) (hc : c ≤ 9223372036854775807) (hB : B ≤ w.heap.size) (hd : (d : Int) ≤ 4294967295) :
    Calls Tryd.prog 5 #[.slice A n c, .int .i64 a, .int .u32 d] w fun e w' => e = .returned (.bool true) ∧ Below w.heap.size w w' := by
  have HW := Lib_hid (works_any w hT)
  have HB := Lib_hid hb
  clear hb
  by_cases h400 : 400 < n
  · go_enter Tryd.func5, Tryd.ntmps5
    go_wp2_with fail
    refine HW.out.mono ?_
    rintro e w1 ⟨rfl, hb1⟩
    go_wp2
    go_ret
    exact ⟨rfl, hb1⟩
  by_cases h0 : n = 0
  · subst h0
    go_enter Tryd.func5, Tryd.ntmps5
    go_wp2_with fail
    refine HW.out.mono ?_
    rintro e w1 ⟨rfl, hb1⟩
    go_wp2
    go_ret
    exact ⟨rfl, hb1⟩
  by_cases hd0 : d = 0
  · subst hd0
    have e0 : ((n : Int) == 0) = false := by simp; exact h0
    go_enter Tryd.func5, Tryd.ntmps5
    go_wp2_with fail
    refine HW.out.mono ?_
    rintro e w1 ⟨rfl, hb1⟩
    go_wp2
    go_ret
    exact ⟨rfl, hb1⟩
  have O := own_any B A n c l w hr (by omega)
  have hl := hr.count
  subst hl
  have P : ∀ W, Calls Tryd.prog 22 #[.int .i64 a, .int .i64 (8 * (l.length : Int))] W fun e w' => ∃ k : Nat, e = .returned (.int .i64 k) ∧ k < 8 * l.length ∧ W = w' := by
    intro W
    have := pickm_any a (8 * l.length) W (by omega) (by omega)
    simpa using this
  have h4 : decide (400 < (l.length : Int)) = false := by simp; omega
  have HP := Lib_hid P
  have e0 : ((l.length : Int) == 0) = false := by simp; exact fun e => h0 (by rw [e]; rfl)
  have e1 : ((d : Int) == 0) = false := by simp; exact hd0
  clear P hd0 h0
  go_enter Tryd.func5, Tryd.ntmps5
  go_wp2_with fail
  refine O.mono ?_
  rintro e w1 ⟨A1, c1, rfl, ho1, hb1⟩
  clear O
  go_wp2_with fail
  refine (HP.out w1).mono ?_
  rintro e w2 ⟨p, rfl, hp, rfl⟩
  go_wp2_with fail
  go_loopw [2, 8, 9, 10] (fun b ch i _ wr => ∃ (k : Nat) (m : List Nat), i = .int .i64 k ∧ k ≤ 32 ∧ b = .int .u32 ((d / 2 ^ k : Nat) : Int) ∧ ch = .bool (chg (8 * l.length) p d k) ∧ Mod l m p d k ∧
    wr.ownsRow w.heap.size 5 1 (.slice A1 l.length c1) l.length (bs m) ∧ Below w.heap.size w wr) (fun _ _ i _ _ => 32 - (intOf i).toNat)
  case atStart => exact ⟨0, l, rfl, by omega, by rw [Nat.pow_zero, Nat.div_one], rfl, Mod.zero l p d HB.out, ho1, hb1⟩
  case round =>
    obtain ⟨k, m, rfl, hk, rfl, rfl, hM, ho, hbw⟩ := hrel
    by_cases hlt : k < 32
    · have ey : d / 2 ^ (k + 1) = d / 2 ^ k / 2 := by rw [Nat.pow_succ, Nat.div_div_eq_div_mul]
      have et : d.testBit k = decide (d / 2 ^ k % 2 = 1) := by rw [Nat.testBit_eq_decide_div_mod_eq]
      have EY := Lib_hid ey
      have EC := Lib_hid (chg_succ (8 * l.length) p d k)
      have hyl : d / 2 ^ k ≤ d := Nat.div_le_self _ _
      clear ey
      by_cases hbit : d / 2 ^ k % 2 = 1
      · by_cases hin : p + k < 8 * l.length
        · have hS := hM.turn (by rw [et]; simp [hbit]) hin
          have EC2 : Hid (chg (8 * l.length) p d (k + 1) = true) := by unfold Hid; rw [EC.out, et]; simp [hbit, hin]
          have hy : ((d / 2 ^ k : Nat) : Int) % 2 = 1 := by omega
          obtain ⟨g, cap, hv, _, _⟩ := ho.form (by omega)
          have hA : A1 = some ⟨g, 0, none⟩ := by injection hv
          subst hA
          have hml : m.length = l.length := hM.1
          have hq : (p + k) / 8 < l.length := by omega
          have hcell : wr.cell? ⟨g, (p + k) / 8, none⟩ = some (.int .u8 (m.getD ((p + k) / 8) 0 : Nat)) := by
            rw [ho.cellAt _ (by omega), bs_get (by omega), List.getD_eq_getElem?_getD, List.getElem?_eq_getElem (by omega)]; rfl
          have hfr := ho.frozenAt ((p + k) / 8)
          have e8 : ((p : Int) + k) / 8 = (((p + k) / 8 : Nat) : Int) := by omega
          have e9 : ((p : Int) + k) % 8 = (((p + k) % 8 : Nat) : Int) := by omega
          have hx : m.getD ((p + k) / 8) 0 < 256 := by
            rw [List.getD_eq_getElem?_getD, List.getElem?_eq_getElem (by omega)]
            exact hM.2.1 _ (List.getElem_mem _)
          have HV := Lib_hid (xor_bit (x := m.getD ((p + k) / 8) 0) (r := (p + k) % 8) hx (Nat.mod_lt _ (by decide)))
          have ⟨hs1, hs2⟩ := ho.stored ((p + k) / 8) (.int .u8 ((m.getD ((p + k) / 8) 0 ^^^ 2 ^ ((p + k) % 8) : Nat) : Int))
          rw [← bs_set] at hs1
          have hbw2 := (hbw.grown hs2 hbw.size (own_ge ho)).drew
          have ET := Lib_hid et
          have HM := Lib_hid hM
          have HO := Lib_hid ho
          clear hs2
          clear et hbit hM hv ho
          generalize d / 2 ^ k = y at *
          generalize chg (8 * l.length) p d k = ch at *
          generalize m.getD ((p + k) / 8) 0 = x at *
          generalize (p + k) / 8 = q at *
          generalize (p + k) % 8 = r at *
          go_wp2
          go_region
          go_wp2
          go_roundw
          case rel => exact ⟨k + 1, _, by go_num, by omega, by rw [EY.out]; go_num, by rw [EC2.out], hS, by rw [HV.out]; exact hs1.drew, by rw [HV.out]; exact hbw2⟩
          case measure => simp [intOf]; omega
        · have hS := hM.skip (by simp [hin])
          have EC2 : Hid (chg (8 * l.length) p d (k + 1) = chg (8 * l.length) p d k) := by unfold Hid; rw [EC.out]; simp [hin]
          have hy : ((d / 2 ^ k : Nat) : Int) % 2 = 1 := by omega
          have hin' : ¬ ((p : Int) + k < 8 * (l.length : Int)) := by omega
          have ET := Lib_hid et
          have HM := Lib_hid hM
          clear et hbit hM
          generalize d / 2 ^ k = y at *
          generalize chg (8 * l.length) p d k = ch at *
          go_wp2
          go_roundw
          case rel => exact ⟨k + 1, m, by go_num, by omega, by rw [EY.out]; go_num, by rw [EC2.out], hS, ho, hbw⟩
          case measure => simp [intOf]; omega
      · have hS := hM.skip (by rw [et]; simp [hbit])
        have EC2 : Hid (chg (8 * l.length) p d (k + 1) = chg (8 * l.length) p d k) := by unfold Hid; rw [EC.out, et]; simp [hbit]
        have hy : ((d / 2 ^ k : Nat) : Int) % 2 = 0 := by omega
        have ET := Lib_hid et
        have HM := Lib_hid hM
        clear et hbit hM
        generalize d / 2 ^ k = y at *
        generalize chg (8 * l.length) p d k = ch at *
        go_wp2
        go_roundw
        case rel => exact ⟨k + 1, m, by go_num, by omega, by rw [EY.out]; go_num, by rw [EC2.out], hS, ho, hbw⟩
        case measure => simp [intOf]; omega
    · obtain rfl : k = 32 := by omega
      have hf := hM.finds HB.out hp
      have hs1 := crcN_lt m
      have hs2 := crcN_lt l
      have hbm : ∀ x ∈ m, x < 256 := hM.2.1
      have hml : m.length = l.length := hM.1
      have hnc1 := own_cap ho
      have hTr := hT.below hbw hT.1
      have G1 := sum_row (w := wr) (c := c1) (crcN m : Nat) hTr (Rd.own ho) hbm hnc1.1 hnc1.2 (Nat.le_refl _) rfl rfl
      have G2 := fun (w3 : World) (hb3 : Below wr.heap.size wr w3) (hT3 : Tab w3) => sum_row (w := w3) (g := w3.heap.size) (crcN l : Nat) hT3 (hr.below ((hbw.trans (hb3.mono hbw.size)).mono hB)) HB.out hnc hc (Nat.le_trans hB (hbw.trans (hb3.mono hbw.size)).size) rfl rfl
      have HG := Lib_hid G2
      have hne : ((crcN m : Int) != (crcN l : Int)) = chg (8 * l.length) p d 32 := by
        rw [← hf]
        by_cases e : crcN m = crcN l
        · simp [e]
        · have : (crcN m : Int) ≠ (crcN l : Int) := by omega
          simp [e, this]
      have HO := Lib_hid ho
      clear G2 hf hM ho hbm HB hr
      generalize crcN m = s1 at *
      generalize crcN l = s2 at *
      generalize chg (8 * l.length) p d 32 = ch at *
      go_wp2_with fail
      refine G1.mono ?_
      rintro e w3 ⟨rfl, hb3, hT3⟩
      clear G1
      go_wp2_with fail
      refine (HG.out w3 hb3 hT3).mono ?_
      rintro e w4 ⟨rfl, hb4, hT4⟩
      clear HG
      have hbw4 := (hbw.trans (hb3.mono hbw.size)).trans (hb4.mono (hbw.trans (hb3.mono hbw.size)).size)
      have HW4 := works_any w4 hT4
      go_wp2_with fail
      refine HW4.mono ?_
      rintro e w5 ⟨rfl, hb5⟩
      go_wp2
      go_ret
      exact ⟨rfl, hbw4.trans (hb5.mono hbw4.size)⟩

end Go.Proofs.YtaidegnjegmfdabDoor
