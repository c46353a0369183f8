/-
  The statement's function VarintGets returns true, for every input.
-/
import Derived.Test.YtaafladmpdkfjaaWorks
import Derived.Test.YtaafladmpdkfjaaSl
import Derived.Test.YtaafladmpdkfjaaOpen
namespace Go.Proofs.Ytaafladmpdkfjaa
open Go Go.RowKit
set_option linter.unusedVariables false

theorem get_tup {B : Nat} {A : Option Addr} {n c : Nat} {l : List Nat} {a : Int} (w : World) (x y z : Nat) (hx : getS l a = (x, y, z)) (h : Rd w B 1 A n (bs l)) (hb : ∀ x ∈ l, x < 256) (hn : n ≤ c) (hc : c ≤ 9223372036854775807) :
    Calls Try.prog 16 #[.slice A n c, .int .i64 a] w fun e w' => e = .returned (.tuple #[.int .u64 x, .int .i64 y, .int .i64 z]) ∧ w = w' := by
  have G := get_any B A n c l a w h hb hn hc
  rw [hx] at G
  exact G
theorem rget_tup {B : Nat} {A : Option Addr} {n c : Nat} {l : List Nat} {a : Int} (w : World) (x y z : Nat) (hx : getS l a = (x, y, z)) (h : Rd w B 1 A n (bs l)) (hb : ∀ x ∈ l, x < 256) (hc : n ≤ 140737488355300) (hB : B ≤ w.heap.size) :
    Calls Try.prog 17 #[.slice A n c, .int .i64 a] w fun e w' => e = .returned (.tuple #[.int .u64 x, .int .i64 y, .int .i64 z]) ∧ Below w.heap.size w w' := by
  have G := rget_any B A n c l a w h hb hc hB
  rw [hx] at G
  exact G
set_option maxRecDepth 100000 in
theorem gets_any (v : Nat) (B : Nat) (A : Option Addr) (n c : Nat) (l : List Nat) (a : Int) (w : World) (hv : (v : Int) ≤ 18446744073709551615) (h : Rd w B 1 A n (bs l)) (hb : ∀ x ∈ l, x < 256) (hn : n ≤ c) (hc : c ≤ 9223372036854775807) (hB : B ≤ w.heap.size) :
    Calls Try.prog 3 #[.int .u64 v, .slice A n c, .int .i64 a] w fun e w' => e = .returned (.bool true) ∧ Below w.heap.size w w' := by
  have HB := Lib_hid hb
  clear hb
  by_cases h200 : 200 < n
  · go_enter Try.func3, Try.ntmps3
    go_wp2_with (go_at_call 9; refine (works_any w).mono ?_; rintro e w1 ⟨rfl, hb1⟩)
    go_ret
    exact ⟨rfl, hb1⟩
  · have O := own_any B A n c l w h (by omega)
    have hl := h.count
    subst hl
    have hten := enc_ten (v := v) (by omega)
    go_enter Try.func3, Try.ntmps3
    go_wp2_with fail
    refine O.mono ?_
    rintro e w1 ⟨A1, c1, rfl, ho1, hb1⟩
    clear O
    go_wp2_with fail
    refine (rput_any 10 v w1 hten (by omega) hv).mono ?_
    rintro e w2 ⟨A2, c2, rfl, ho2, hb2⟩
    have r1 : Rd w2 w2.heap.size 1 A1 l.length (bs l) := ((Rd.own ho1).below hb2).more hb2.size
    have r2 : Rd w2 w2.heap.size 1 A2 (enc v).length (bs (enc v)) := Rd.own ho2
    have hbw : Below w.heap.size w w2 := hb1.trans (hb2.mono hb1.size)
    clear ho1 ho2 hb1 hb2
    obtain ⟨t, ht⟩ : ∃ t, t = enc v := ⟨_, rfl⟩
    rw [← ht] at r2 hten
    rw [← ht]
    have hput : ∀ W, Calls Try.prog 12 #[.int .u64 v] W (Made 5 t W) := by intro W; rw [ht]; exact put_any v W hv
    have hsize : ∀ W, Calls Try.prog 14 #[.int .u64 v] W fun e w' => e = .returned (.int .i64 t.length) ∧ W = w' := by intro W; rw [ht]; exact size_any v W hv
    have HP := Lib_hid hput
    have HS := Lib_hid hsize
    clear hput hsize ht
    go_wp2_with fail
    go_loopw [9] (fun i wr => ∃ k : Nat, i = .int .i64 k ∧ k ≤ 2 ∧ Below w2.heap.size w2 wr) (fun i _ => 2 - (intOf i).toNat)
    case atStart => exact ⟨0, rfl, by omega, Below.refl _ _⟩
    case round =>
      obtain ⟨k, rfl, hk, hbr⟩ := hrel
      by_cases hk2 : k < 2
      · go_wp2_with fail
        refine (HP.out wr).mono ?_
        rintro e w3 ⟨A3, c3, rfl, ho3, hb3⟩
        go_wp2_with fail
        refine (same_yes t w3 (Rd.own ho3) ((r2.below hbr).below (hb3.mono hbr.size)) (by omega)).mono ?_
        rintro e w4 ⟨rfl, q, rfl⟩
        go_wp2_with fail
        refine (HS.out _).mono ?_
        rintro e w5 ⟨rfl, rfl⟩
        go_wp2_with fail
        refine (spoil_any wr.heap.size t.length c3 A3 _ (w3.drewN q) (own_keep (w' := w3.drewN q) ho3 (fun _ _ => rfl)) (by omega)).mono ?_
        rintro e w6 ⟨rfl, hg6⟩
        have hb6 : Below w2.heap.size w2 w6 := hbr.trans ((hb3.mono hbr.size).trans ((below_drew_ (Below.refl _ w3)).trans ((Below.refl _ _).grown hg6 (by have := hbr.size; have := hb3.size; simp; omega) (fun k hk => by have := own_ge ho3 k hk; have := hbr.size; omega))))
        clear hg6 ho3 hb3 hbr
        go_wp2_with fail
        go_roundw
        case rel => exact ⟨k + 1, by go_num, by omega, hb6⟩
        case measure => simp [intOf]; omega
      · have hbw2 : Below w.heap.size w wr := hbw.trans (hbr.mono hbw.size)
        obtain ⟨⟨x, y, z⟩, hx⟩ : ∃ x, getS l a = x := ⟨_, rfl⟩
        have HX := Lib_hid hx
        clear hx
        go_wp2_with fail
        refine (get_tup wr x y z HX.out ((h.below (hbw2.mono hB))) HB.out hn hc).mono ?_
        rintro e w3 ⟨rfl, rfl⟩
        go_wp2_with fail
        refine (rget_tup wr x y z HX.out (r1.below hbr) HB.out (by omega) hbr.size).mono ?_
        rintro e w4 ⟨rfl, hb4⟩
        have hbw4 : Below w.heap.size w w4 := hbw2.trans (hb4.mono hbw2.size)
        go_wp2_with fail
        refine (same_yes l w4 ((r1.below hbr).below (hb4.mono hbr.size)) (h.below (hbw4.mono hB)) (by omega)).mono ?_
        rintro e w5 ⟨rfl, q, rfl⟩
        go_wp2_with fail
        refine (works_any _).mono ?_
        rintro e w6 ⟨rfl, hb6⟩
        go_wp2_with fail
        go_ret
        exact ⟨rfl, hbw4.trans ((below_drew_ (Below.refl _ w4)).trans (hb6.mono (by have := hbw4.size; simp; omega)))⟩

end Go.Proofs.Ytaafladmpdkfjaa
