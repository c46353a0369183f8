/-
  Contract of the program's varint.Get, for every input.
-/
import Derived.Test.YtiijdacnfhiagaaGreatDoorKit
import Derived.Handy
import Derived.Laws.BitsAllLaws
import Derived.Laws.Bits64b
namespace Go.Proofs.YtiijdacnfhiagaaGreatDoor
open Go Go.RowKit
set_option linter.unusedVariables false

/-- Three results: a number, a place, an error's number. -/
def tup (x : Nat × Nat × Nat) : Value := .tuple #[.int .u64 (x.1 : Int), .int .i64 (x.2.1 : Int), .int .i64 (x.2.2 : Int)]

/-- The number with one digit more, as the program makes it. -/
def orS (z x k : Nat) : Nat := z ||| (x % 128 * 2 ^ (7 * k)) % 18446744073709551616

set_option maxRecDepth 100000 in
theorem or_any (z x k : Nat) (hz : z < 18446744073709551616) : bits .or .u64 (z : Int) (IntKind.u64.wrap ((x : Int) % 128 * 2 ^ (7 * k))) = ((orS z x k : Nat) : Int) := by
  have e : IntKind.u64.wrap ((x : Int) % 128 * 2 ^ (7 * k)) = (((x % 128 * 2 ^ (7 * k)) % 18446744073709551616 : Nat) : Int) := by
    have h1 : ((x : Int) % 128 * 2 ^ (7 * k)) = ((x % 128 * 2 ^ (7 * k) : Nat) : Int) := by rw [Int.natCast_mul, Int.natCast_pow]; rfl
    rw [IntKind.wrap_u64, h1]
    generalize x % 128 * 2 ^ (7 * k) = y
    omega
  rw [e, bits_or_u64_nat z _ hz (Nat.mod_lt _ (by decide))]
  rfl

theorem pow128 (k : Nat) : 2 ^ (7 * k) = 128 ^ k := by rw [Nat.pow_mul]

theorem orS_fit {z x k : Nat} (hz : z < 128 ^ k) (hx : x % 128 * 128 ^ k < 18446744073709551616) : orS z x k = z + x % 128 * 128 ^ k := by
  unfold orS
  rw [pow128, Nat.mod_eq_of_lt hx, Nat.or_comm, nat_join (7 * k) _ z (by rw [pow128]; exact Nat.mul_mod_left _ _) (by rw [pow128]; exact hz), Nat.add_comm]

theorem pow_le9 {k : Nat} (h : k ≤ 9) : 128 ^ k ≤ 9223372036854775808 := Nat.le_trans (Nat.pow_le_pow_right (by decide) h) (by decide)
theorem pow_le8 {k : Nat} (h : k ≤ 8) : 128 ^ k ≤ 72057594037927936 := Nat.le_trans (Nat.pow_le_pow_right (by decide) h) (by decide)

theorem orS_step {z x k : Nat} (hz : z < 128 ^ k) (hk : k < 9) : orS z x k = z + x % 128 * 128 ^ k ∧ orS z x k < 128 ^ (k + 1) := by
  have h8 := pow_le8 (k := k) (by omega)
  have hx : x % 128 ≤ 127 := by omega
  have hm := Nat.mul_le_mul_right (128 ^ k) hx
  have e := orS_fit (x := x) hz (by omega)
  refine ⟨e, ?_⟩
  rw [e, Nat.pow_succ]
  omega

theorem orS_last {z x k : Nat} (hz : z < 128 ^ k) (hk : k ≤ 9) (hx : x < 128) (he : mayEnd x k = true) : orS z x k = z + x * 128 ^ k := by
  have e : x % 128 = x := Nat.mod_eq_of_lt hx
  have h9 := pow_le9 hk
  by_cases hk9 : k = 9
  · subst hk9
    have hx1 : x = 1 := by simpa [mayEnd] using he
    subst hx1
    exact orS_fit hz (by decide)
  · rw [(orS_step (x := x) hz (by omega)).1, e]

set_option maxRecDepth 100000 in
theorem get_out (A : Option Addr) (n c : Nat) (a : Int) (w : World) (h : a < 0 ∨ (n : Int) < a) :
    Calls Tryz.prog 81 #[.slice A n c, .int .i64 a] w fun e w' => e = .returned (tup (0, 0, 2)) ∧ w = w' := by
  by_cases h0 : a < 0
  · go_enter Tryz.func81, Tryz.ntmps81
    go_wp2
    go_ret3
    exact ⟨rfl, rfl⟩
  · have h1 : (n : Int) < a := by omega
    go_enter Tryz.func81, Tryz.ntmps81
    go_wp2
    go_ret3
    exact ⟨rfl, rfl⟩

set_option maxRecDepth 100000 in
theorem get_in (B : Nat) (A : Option Addr) (n c : Nat) (l : List Nat) (a : Nat) (w : World) (h : Rd w B 1 A n (bs l)) (hb : ∀ x ∈ l, x < 256) (hn : n ≤ c) (hc : c ≤ 9223372036854775807) (ha : a ≤ n) :
    Calls Tryz.prog 81 #[.slice A n c, .int .i64 (a : Int)] w fun e w' => e = .returned (tup (getS l a)) ∧ w = w' := by
  have hcut := h.cut ha hn
  simp only [Nat.mul_one] at hcut
  obtain ⟨A2, hA2⟩ : ∃ A2, A2 = (if c = a then A else A.map (·.add a)) := ⟨_, rfl⟩
  rw [← hA2] at hcut
  obtain ⟨m, hm⟩ : ∃ m, m = n - a := ⟨_, rfl⟩
  rw [← hm] at hcut
  have hsl : ∀ wx, (Instr.slice 32 (.slice A n c) (some (.int .i64 (a : Int))) none none).run Tryz.prog wx = .ok (.slice A2 m (c - a)) wx := by
    intro wx
    rw [hA2, hm]
    have hu := Tryz.underlying32
    have he : Tryz.prog.elem 32 = 5 := by kernel_rfl
    rw [run_slice_l wx 32 A n c (by rw [he]; exact hu) .i64 a (by omega) (by omega)]
    rw [he]
    have hs5 : ((sizeOf 5).run Tryz.prog wx) = .ok 1 wx := by
      obtain ⟨i0, hi, hz0, hz1, hz2⟩ := info_parts Tryz.info5
      simp [sizeOf, typeInfo, hi, hz1]
    rw [hs5]
    simp [sliced, Result.andThen]
  have hl := h.count
  obtain ⟨r, hr⟩ : ∃ r, r = l.drop a := ⟨_, rfl⟩
  have hcut' : Rd w B 1 A2 m (bs r) := by rw [hr]; unfold bs at *; rw [List.map_drop]; exact hcut
  have hbr : ∀ k, r.getD k 0 < 256 := by
    intro k
    rw [List.getD_eq_getElem?_getD]
    cases hk : r[k]? with
    | none => simp
    | some x => simp only [Option.getD_some]; exact hb x (by have := List.mem_of_getElem? hk; rw [hr] at this; exact List.mem_of_mem_drop this)
  have hrl : r.length = m := by rw [hr, List.length_drop, hl, hm]
  have HR : Hid (getS l a = ans a (got r)) := by
    unfold Hid getS
    rw [if_neg (by omega), Int.toNat_natCast, hr]
  have HL : Hid (r.length = m) := hrl
  have hmc : m ≤ 9223372036854775807 := by omega
  have ham : a + m ≤ 9223372036854775807 := by omega
  have HB := Lib_hid hbr
  clear hA2 hm hl hr hcut hrl hbr hb h
  rcases Nat.lt_or_ge 10 m with hm10 | hm10
  all_goals
    go_enter Tryz.func81, Tryz.ntmps81
    go_wp2
    go_loop [4, 24] (fun x i => ∃ k z : Nat, x = .int .u64 z ∧ i = .int .i64 k ∧ k ≤ m ∧ k ≤ 10 ∧ (k < 10 → z < 128 ^ k) ∧ ScanAt r k z) (fun _ i => 10 - (intOf i).toNat)
    case atStart => exact ⟨0, 0, rfl, rfl, by omega, by omega, by omega, ScanAt.zero r⟩
    case round =>
      obtain ⟨k, z, rfl, rfl, hkm, hk10, hz, hS⟩ := hrel
      by_cases hlt : k < m ∧ k < 10
      · obtain ⟨hlm, hl10⟩ := hlt
        obtain ⟨ad, rfl, _, hcell⟩ := hcut'.byte hlm
        have hz' := Lib_hid (hz hl10)
        have hx := HB.out k
        obtain ⟨x, hX⟩ : ∃ x, x = r.getD k 0 := ⟨_, rfl⟩
        rw [← hX] at hcell hx
        have HX := Lib_hid hX
        clear hX hz
        have hz64 : z < 18446744073709551616 := Nat.lt_of_lt_of_le hz'.out (Nat.le_trans (pow_le9 (by omega)) (by decide))
        have hor := or_any z x k hz64
        obtain ⟨Z, hZ⟩ : ∃ Z, Z = orS z x k := ⟨_, rfl⟩
        rw [← hZ] at hor
        have HZ := Lib_hid hZ
        clear hZ hz64
        by_cases hc : x < 128
        · have E := ends_any x k w (by omega) (by omega)
          cases hme : mayEnd x k with
          | true =>
            rw [hme] at E
            have hfin : got r = .num Z (k + 1) := by
              have := hS.last hl10 (by rw [HL.out]; exact hlm) (by rw [← HX.out]; exact hc)
              rw [← HX.out, hme, if_pos rfl, ← orS_last hz'.out (by omega) hc hme, ← HZ.out] at this
              exact this
            have HF : Hid (getS l a = (Z, a + (k + 1), 0)) := by unfold Hid; rw [HR.out, hfin]; rfl
            clear hfin hme hS
            go_wp2_with (go_at_call 107; refine E.mono ?_; rintro e w' ⟨rfl, rfl⟩)
            go_ret3
            rw [HF.out]
            exact ⟨by unfold tup; simp [go_sem]; omega, rfl⟩
          | false =>
            rw [hme] at E
            have hfin : got r = .err 10 := by
              have := hS.last hl10 (by rw [HL.out]; exact hlm) (by rw [← HX.out]; exact hc)
              rw [← HX.out, hme] at this
              exact this
            have HF : Hid (getS l a = (0, 0, 10)) := by unfold Hid; rw [HR.out, hfin]; rfl
            clear hfin hme hS
            go_wp2_with (go_at_call 107; refine E.mono ?_; rintro e w' ⟨rfl, rfl⟩)
            go_ret3
            rw [HF.out]
            exact ⟨rfl, rfl⟩
        · have hS' := hS.more (v' := Z) hl10 (by rw [HL.out]; exact hlm) (by rw [← HX.out]; omega) (fun hk9 => by rw [HZ.out, ← HX.out]; exact (orS_step hz'.out hk9).1)
          have hZ' : Hid (k + 1 < 10 → Z < 128 ^ (k + 1)) := fun hk9 => by rw [HZ.out]; exact (orS_step hz'.out (by omega)).2
          clear hS
          go_wp2
          go_round
          case rel => exact ⟨k + 1, Z, rfl, by go_num, by omega, by omega, hZ'.out, hS'⟩
          case measure => simp [intOf]; omega
      · have hkk : k = min r.length 10 := by rw [HL.out]; omega
        have hfin := hS.end_ hk10 hkk
        rw [HL.out] at hfin
        have HF := Lib_hid hfin
        clear hkk hfin hS hz
        by_cases h10 : 10 ≤ m
        · have HG : Hid (getS l a = (0, 0, 10)) := by unfold Hid; rw [HR.out, HF.out, if_pos h10]; rfl
          obtain rfl : k = 10 := by omega
          go_wp2
          go_ret3
          rw [HG.out]
          exact ⟨rfl, rfl⟩
        · have HG : Hid (getS l a = (0, 0, 4)) := by unfold Hid; rw [HR.out, HF.out, if_neg h10]; rfl
          first
          | (exfalso; omega)
          | (obtain rfl : k = m := by omega
             go_wp2
             go_ret3
             rw [HG.out]
             exact ⟨rfl, rfl⟩)

theorem get_any (B : Nat) (A : Option Addr) (n c : Nat) (l : List Nat) (a : Int) (w : World) (h : Rd w B 1 A n (bs l)) (hb : ∀ x ∈ l, x < 256) (hn : n ≤ c) (hc : c ≤ 9223372036854775807) :
    Calls Tryz.prog 81 #[.slice A n c, .int .i64 a] w fun e w' => e = .returned (tup (getS l a)) ∧ w = w' := by
  have hl := h.count
  by_cases ho : a < 0 ∨ (n : Int) < a
  · have e : getS l a = (0, 0, 2) := by unfold getS; rw [hl, if_pos ho]
    rw [e]
    exact get_out A n c a w ho
  · obtain ⟨k, rfl⟩ : ∃ k : Nat, a = k := ⟨a.toNat, by omega⟩
    exact get_in B A n c l k w h hb hn hc (by omega)

end Go.Proofs.YtiijdacnfhiagaaGreatDoor
