/-
  Contract of the document's Get (alibiref01.Get), for every input: it answers as the program's.
-/
import Derived.Test.YtiijdacnfhiagaaGreatDoorGet
namespace Go.Proofs.YtiijdacnfhiagaaGreatDoor
open Go Go.RowKit
set_option linter.unusedVariables false

theorem below_of (w : World) : Below w.heap.size w w := Below.refl _ _

set_option maxRecDepth 100000 in
theorem rget_out (A : Option Addr) (n c : Nat) (a : Int) (w : World) (h : a < 0 ∨ (n : Int) < a) :
    Calls Tryz.prog 82 #[.slice A n c, .int .i64 a] w fun e w' => e = .returned (tup (0, 0, 2)) ∧ Below w.heap.size w w' := by
  by_cases h0 : a < 0
  · go_enter Tryz.func82, Tryz.ntmps82
    go_wp2
    go_ret3
    exact ⟨rfl, below_of _⟩
  · have h1 : (n : Int) < a := by omega
    go_enter Tryz.func82, Tryz.ntmps82
    go_wp2
    go_ret3
    exact ⟨rfl, below_of _⟩

theorem horn_wrap (u x : Nat) : IntKind.u64.wrap (IntKind.u64.wrap ((u : Int) * 128) + (x : Int) % 128) = (((u * 128 + x % 128) % 18446744073709551616 : Nat) : Int) := by
  rw [IntKind.wrap_u64, IntKind.wrap_u64]; omega

theorem agree_take {t r : List Nat} {k : Nat} (h : Agree t r (k + 1)) (hl : t.length = k + 1) (hk : k < r.length) : t = r.take (k + 1) := by
  apply List.ext_getElem
  · rw [List.length_take]; omega
  · intro i h1 h2
    have := h i (by omega)
    rw [List.getD_eq_getElem?_getD, List.getD_eq_getElem?_getD, List.getElem?_eq_getElem h1, List.getElem?_eq_getElem (by omega)] at this
    simpa using this
theorem take_getD {t r : List Nat} {k i : Nat} (h : t = r.take (k + 1)) (hi : i ≤ k) : t.getD i 0 = r.getD i 0 := by
  subst h
  simp only [List.getD_eq_getElem?_getD, List.getElem?_take]
  rw [if_pos (by omega)]

set_option maxRecDepth 100000 in
theorem rget_in (B : Nat) (A : Option Addr) (n c : Nat) (l : List Nat) (a : Nat) (w : World) (h : Rd w B 1 A n (bs l)) (hb : ∀ x ∈ l, x < 256) (hc : n ≤ 140737488355300) (ha : a ≤ n) (hB : B ≤ w.heap.size) :
    Calls Tryz.prog 82 #[.slice A n c, .int .i64 (a : Int)] w fun e w' => e = .returned (tup (getS l a)) ∧ Below w.heap.size w w' := by
  have hl := h.count
  obtain ⟨r, hr⟩ : ∃ r, r = l.drop a := ⟨_, rfl⟩
  have hbr : ∀ x ∈ r, x < 256 := fun x hx => hb x (by rw [hr] at hx; exact List.mem_of_mem_drop hx)
  have hg : ∀ k, l.getD (a + k) 0 = r.getD k 0 := by intro k; rw [hr]; simp [List.getD_eq_getElem?_getD]
  have hrl : a + r.length = n := by rw [hr, List.length_drop]; omega
  have HR : Hid (getS l a = ans a (got r)) := by
    unfold Hid getS
    rw [if_neg (by omega), Int.toNat_natCast, hr]
  have HL := Lib_hid hrl
  have HG := Lib_hid hg
  have HB := Lib_hid hbr
  have hx256 : Hid (∀ k, r.getD k 0 < 256) := by
    intro k
    rw [List.getD_eq_getElem?_getD]
    cases hk : r[k]? with
    | none => simp
    | some x => simp only [Option.getD_some]; exact hbr x (List.mem_of_getElem? hk)
  clear hl hr hbr hg hrl hb
  go_enter Tryz.func82, Tryz.ntmps82
  go_wp2
  go_loop [7] (fun i => ∃ k : Nat, i = .int .i64 k ∧ k ≤ 10 ∧ a + k ≤ n ∧ AllMore r k) (fun i => 10 - (intOf i).toNat)
  case atStart => exact ⟨0, rfl, by omega, by omega, AllMore.zero r⟩
  case round =>
    obtain ⟨k, rfl, hk10, hkn, hM⟩ := hrel
    by_cases hten : k = 10
    · subst hten
      have HF : Hid (getS l a = (0, 0, 10)) := by unfold Hid; rw [HR.out, got_ten hM (by have := HL.out; omega)]; rfl
      clear hM
      go_wp2
      go_ret3
      rw [HF.out]
      exact ⟨rfl, below_of _⟩
    · by_cases hend : a + k = n
      · have HF : Hid (getS l a = (0, 0, 4)) := by unfold Hid; rw [HR.out, got_short hM (by omega) (by have := HL.out; omega)]; rfl
        have hk9 : k < 10 := by omega
        have hge : n ≤ a + k := by omega
        clear hM hend hten
        go_wp2
        go_ret3
        rw [HF.out]
        exact ⟨rfl, below_of _⟩
      · have hk9 : k < 10 := by omega
        have hlt : a + k < n := by omega
        obtain ⟨ad, hA, hadB, hcell⟩ := h.byte hlt
        subst hA
        rw [HG.out k] at hcell
        have hx := hx256.out k
        obtain ⟨x, hX⟩ : ∃ x, x = r.getD k 0 := ⟨_, rfl⟩
        rw [← hX] at hcell hx
        have HX := Lib_hid hX
        clear hX hten hend
        by_cases hc2 : 128 ≤ x
        · have hM' := hM.succ (by rw [← HX.out]; exact hc2)
          clear hM
          go_wp2
          go_round
          case rel => exact ⟨k + 1, by go_num, by omega, by omega, hM'⟩
          case measure => simp [intOf]; omega
        · have hgot : Hid (∀ v, v = val (r.take (k + 1)) % 18446744073709551616 → got r = if enc v = r.take (k + 1) then .num v (k + 1) else .err 10) :=
            got_by HB.out hM hk9 (by have := HL.out; omega) (by rw [← HX.out]; omega)
          have hkr : k < r.length := by have := HL.out; omega
          clear hM
          go_wp2
          go_loop [8, 9] (fun s z => ∃ (j u : Nat) (q : Int), z = .int .i64 q ∧ s = .int .u64 u ∧ j ≤ k + 1 ∧ (u : Int) ≤ 18446744073709551615 ∧ Hid (q = (j : Int) - 1) ∧ Hid (u = horn r k j)) (fun _ z => (intOf z + 1).toNat)
          case atStart => exact ⟨k + 1, 0, k, rfl, rfl, by omega, by omega, by unfold Hid; omega, (horn_top hkr).symm⟩
          case round =>
            obtain ⟨j, u, q, rfl, rfl, hj, hu, hq, hH⟩ := hrel
            by_cases hj0 : j = 0
            · subst hj0
              obtain rfl : q = -1 := by have := hq.out; omega
              have hV : u = val (r.take (k + 1)) % 18446744073709551616 := hH.out
              have HQ := Lib_hid (hgot.out u hV)
              have hten := enc_ten (v := u) (by omega)
              obtain ⟨t, ht⟩ : ∃ t, t = enc u := ⟨_, rfl⟩
              have P := rput_any 10 u w hten (by omega) hu
              rw [← ht] at P hten
              have HT := Lib_hid ht
              clear hV hH hgot ht
              by_cases hlen : t.length = k + 1
              · have HLen := Lib_hid hlen
                have hne : (((t.length : Nat) : Int) != (k : Int) + 1) = false := by rw [hlen]; simp
                clear hlen
                go_wp2_with (go_at_call 58; refine P.mono ?_; rintro e w1 ⟨A1, c1, rfl, ho1, hb1⟩)
                have hr1 := Rd.own ho1
                have h1 := h.below (hb1.mono hB)
                go_loopw [11] (fun i wr => ∃ i' q' : Nat, i = .int .i64 i' ∧ i' ≤ k + 1 ∧ Agree t r i' ∧ wr = w1.drewN q') (fun i _ => (k + 1) - (intOf i).toNat)
                case atStart => exact ⟨0, 0, rfl, by omega, Agree.zero _ _, rfl⟩
                case round =>
                  obtain ⟨i, q', rfl, hi, hag, rfl⟩ := hrel
                  by_cases hik : i ≤ k
                  · obtain ⟨ad1, hA1, _, c1⟩ := hr1.byte (k := i) (by have := HLen.out; omega)
                    subst hA1
                    obtain ⟨ad', hA', _, c2⟩ := h1.byte (k := a + i) (by omega)
                    obtain rfl : ad = ad' := by injection hA'
                    rw [HG.out i] at c2
                    have hti : i < t.length := by have := HLen.out; omega
                    clear hA'
                    by_cases he : t.getD i 0 = r.getD i 0
                    · have hag' := hag.succ he
                      rw [← he] at c2
                      clear hag he h h1 hr1
                      go_wp2
                      go_quiet (fail)
                      go_wp2
                      go_roundw
                      case rel => exact ⟨i + 1, q' + nq, by go_num, by omega, hag', rfl⟩
                      case measure => simp [intOf]; omega
                    · have HF : Hid (getS l a = (0, 0, 10)) := by
                        unfold Hid; rw [HR.out, HQ.out, if_neg]; rfl
                        intro hq; exact he (take_getD (by rw [HT.out]; exact hq) hik)
                      obtain ⟨x1, hx1⟩ : ∃ x1, x1 = t.getD i 0 := ⟨_, rfl⟩
                      obtain ⟨x2, hx2⟩ : ∃ x2, x2 = r.getD i 0 := ⟨_, rfl⟩
                      rw [← hx1] at c1
                      rw [← hx2] at c2
                      have hd : (((x1 : Nat) : Int) != ((x2 : Nat) : Int)) = true := by simp only [int_bne]; rw [hx1, hx2]; simpa using he
                      clear hag he h h1 hr1 hx1 hx2
                      go_wp2
                      go_quiet (fail)
                      go_wp2
                      go_ret3
                      rw [HF.out]
                      exact ⟨rfl, below_drew_ (below_drew_ hb1)⟩
                  · obtain rfl : i = k + 1 := by omega
                    have HF : Hid (getS l a = (u, a + (k + 1), 0)) := by
                      unfold Hid; rw [HR.out, HQ.out, if_pos]; rfl
                      rw [← HT.out]; exact agree_take hag HLen.out hkr
                    clear hag
                    go_wp2
                    go_ret3
                    rw [HF.out]
                    exact ⟨by unfold tup; simp [go_sem]; omega, below_drew_ hb1⟩
              · have HF : Hid (getS l a = (0, 0, 10)) := by
                  unfold Hid; rw [HR.out, HQ.out, if_neg]; rfl
                  rw [← HT.out]; intro hq; exact hlen (by rw [hq, List.length_take]; omega)
                have hne : (((t.length : Nat) : Int) != (k : Int) + 1) = true := by
                  rw [bne_iff_ne]; omega
                clear hlen
                go_wp2_with (go_at_call 58; refine P.mono ?_; rintro e w1 ⟨A1, c1, rfl, ho1, hb1⟩)
                go_ret3
                rw [HF.out]
                exact ⟨rfl, hb1⟩
            · obtain ⟨i, rfl⟩ : ∃ i, j = i + 1 := ⟨j - 1, by omega⟩
              obtain rfl : q = (i : Int) := by have := hq.out; omega
              obtain ⟨ad', hA', _, hcell'⟩ := h.byte (k := a + i) (by omega)
              obtain rfl : ad = ad' := by injection hA'
              rw [HG.out i] at hcell'
              have hy := hx256.out i
              obtain ⟨y, hY⟩ : ∃ y, y = r.getD i 0 := ⟨_, rfl⟩
              rw [← hY] at hcell' hy
              have HY := Lib_hid hY
              clear hY hA' hj0
              go_wp2
              go_round
              case rel =>
                refine ⟨i, (u * 128 + y % 128) % 18446744073709551616, (i : Int) - 1, rfl, ?_, by omega, by omega, rfl, ?_⟩
                · rw [horn_wrap]
                · unfold Hid; rw [horn_step hkr (by omega), ← hH.out, HY.out]
              case measure => simp [intOf]

theorem rget_any (B : Nat) (A : Option Addr) (n c : Nat) (l : List Nat) (a : Int) (w : World) (h : Rd w B 1 A n (bs l)) (hb : ∀ x ∈ l, x < 256) (hc : n ≤ 140737488355300) (hB : B ≤ w.heap.size) :
    Calls Tryz.prog 82 #[.slice A n c, .int .i64 a] w fun e w' => e = .returned (tup (getS l a)) ∧ Below w.heap.size w w' := by
  have hl := h.count
  by_cases ho : a < 0 ∨ (n : Int) < a
  · have e : getS l a = (0, 0, 2) := by unfold getS; rw [hl, if_pos ho]
    rw [e]
    exact rget_out A n c a w ho
  · obtain ⟨k, rfl⟩ : ∃ k : Nat, a = k := ⟨a.toNat, by omega⟩
    exact rget_in B A n c l k w h hb hc (by omega) hB

end Go.Proofs.YtiijdacnfhiagaaGreatDoor
