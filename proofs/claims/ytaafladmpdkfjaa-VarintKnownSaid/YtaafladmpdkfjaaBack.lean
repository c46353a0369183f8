/-
  The statement's function VarintBack returns true, for every input.
-/
import Derived.Test.YtaafladmpdkfjaaGets
import Derived.RegionTactic
import Derived.Deep.RegionHeld3
namespace Go.Proofs.Ytaafladmpdkfjaa
open Go Go.RowKit
set_option linter.unusedVariables false

theorem Rd.drewN_ {w : World} {B size n : Nat} {A : Option Addr} {xs : List Value} (h : Rd w B size A n xs) (k : Nat) : Rd (w.drewN k) B size A n xs := h.keep fun _ _ => rfl

theorem eqB_prefix (v w N : Nat) (h : N = min (enc v).length (enc w).length) : eqB ((enc v).take N) ((enc w).take N) = (((v : Nat) : Int) == ((w : Nat) : Int)) := by
  rw [int_beq]
  unfold eqB
  rw [Bool.eq_iff_iff]
  simp [enc_prefix v w N h]

theorem same_quiet {B B' : Nat} {A A' : Option Addr} {n n' c c' : Nat} {l m : List Nat} {w : World} {k : Nat} {b : Bool} (hb : eqB l m = b) (h : Rd w B 1 A n (bs l)) (h' : Rd w B' 1 A' n' (bs m)) (hn : n ≤ 9223372036854775807) :
    Calls Try.prog 13 #[.slice A n c, .slice A' n' c'] (w.drewN k) fun e w'' => e = .returned (.bool b) ∧ ∃ q, w'' = w.drewN q := by
  have G := same_any B B' A A' n n' c c' l m (w.drewN k) (h.drewN_ k) (h'.drewN_ k) hn
  rw [hb] at G
  exact Calls.quiet_of G

set_option maxRecDepth 100000 in
set_option maxHeartbeats 3200000 in
theorem back_any (v u : Nat) (B : Nat) (A A' : Option Addr) (n c n' c' : Nat) (l m : List Nat) (w : World) (hv : (v : Int) ≤ 18446744073709551615) (hu : (u : Int) ≤ 18446744073709551615)
    (h : Rd w B 1 A n (bs l)) (hb : ∀ x ∈ l, x < 256) (h' : Rd w B 1 A' n' (bs m)) (hb' : ∀ x ∈ m, x < 256) (hn' : n' ≤ c') (hc' : c' ≤ 9223372036854775807) (hB : B ≤ w.heap.size) :
    Calls Try.prog 6 #[.int .u64 v, .int .u64 u, .slice A n c, .slice A' n' c'] w fun e w' => e = .returned (.bool true) ∧ Below w.heap.size w w' := by
  have HB := Lib_hid hb
  have HB' := Lib_hid hb'
  clear hb hb'
  have hl := h.count
  have hm := h'.count
  subst hl hm
  by_cases h1 : 100 < l.length
  · go_enter Try.func6, Try.ntmps6
    go_wp2_with (go_at_call 9; refine (works_any w).mono ?_; rintro e w1 ⟨rfl, hb1⟩)
    go_ret
    exact ⟨rfl, hb1⟩
  by_cases h2 : 100 < m.length
  · go_enter Try.func6, Try.ntmps6
    go_wp2_with (go_at_call 9; refine (works_any w).mono ?_; rintro e w1 ⟨rfl, hb1⟩)
    go_ret
    exact ⟨rfl, hb1⟩
  have pv := enc_pos v
  have pu := enc_pos u
  have tv := enc_ten (v := v) (by omega)
  have tu := enc_ten (v := u) (by omega)
  have HG : Hid (getS (l ++ enc v ++ m) (l.length : Nat) = (v, l.length + (enc v).length, 0)) := getS_put l m v (by omega) HB'.out
  have hall : Hid (∀ x ∈ l ++ enc v ++ m, x < 256) := by
    intro x hx
    simp only [List.mem_append] at hx
    rcases hx with (hx | hx) | hx
    · exact HB.out x hx
    · exact enc_byte v x hx
    · exact HB'.out x hx
  have HE : Hid (∀ N, N = min (enc v).length (enc u).length → eqB ((enc v).take N) ((enc u).take N) = (((v : Nat) : Int) == ((u : Nat) : Int))) := fun N hN => eqB_prefix v u N hN
  have hmono : v ≤ u → (enc v).length ≤ (enc u).length := enc_mono v u
  have hPv : Hid (∀ W, Calls Try.prog 12 #[.int .u64 v] W (Made 5 (enc v) W)) := fun W => put_any v W hv
  have hPu : Hid (∀ W, Calls Try.prog 12 #[.int .u64 u] W (Made 5 (enc u) W)) := fun W => put_any u W hu
  obtain ⟨p, hp⟩ : ∃ p, p = enc v := ⟨_, rfl⟩
  obtain ⟨q, hq⟩ : ∃ q, q = enc u := ⟨_, rfl⟩
  rw [← hp] at pv tv HG hall HE hmono hPv
  rw [← hq] at pu tu HE hmono hPu
  clear hp hq
  have O := own_any B A l.length c l
  obtain ⟨i0, hi, hz0, hz1, hz2⟩ := info_parts Try.info5
  have hm1 : l.length + p.length ≤ maxLen := by unfold maxLen; omega
  have hm2 : (l.length + p.length) * 1 ≤ 140737488355328 := by omega
  have hm3 : l.length + p.length + m.length ≤ maxLen := by unfold maxLen; omega
  have hm4 : (l.length + p.length + m.length) * 1 ≤ 140737488355328 := by omega
  go_enter Try.func6, Try.ntmps6
  go_wp2_with fail
  refine (hPv.out w).mono ?_
  rintro e w1 ⟨A1, c1, rfl, ho1, hb1⟩
  go_wp2_with fail
  refine (hPu.out w1).mono ?_
  rintro e w2 ⟨A2, c2, rfl, ho2, hb2⟩
  have hbw2 : Below w.heap.size w w2 := hb1.trans (hb2.mono hb1.size)
  go_wp2_with fail
  refine (O w2 (h.below (hbw2.mono hB)) (by omega)).mono ?_
  rintro e w3 ⟨A3, c3, rfl, ho3, hb3⟩
  have rp : Rd w2 w2.heap.size 1 A1 p.length (bs p) := ((Rd.own ho1).below hb2).more hb2.size
  have rq : Rd w2 w2.heap.size 1 A2 q.length (bs q) := Rd.own ho2
  have hcp := (own_cap ho1).1
  have hcq := (own_cap ho2).1
  clear ho1 ho2 hb1 hb2
  have hz3 := hb3.size
  go_wp2_with (first | (at_builtin; (refine wpList_app rfl (.tmp 33) (.tmp 34) 23 rfl w2.heap.size 5 i0 (.int .u8 0) 1 1 Try.underlying23 hi hz0 hz1 hz2 rfl (by decide) (.slice A3 l.length c3) l.length (bs l) rfl ho3 w2.heap.size A1 p.length c1 (bs p) rfl (rp.below hb3) (bs_one _) hm1 hm2 hz3 ?_); intro v4 w4 ho4 hs4; obtain ⟨A4, c4, rfl, _⟩ := own_form ho4; have hb4 := hb3.trans (hs4.below hz3 (own_ge ho3))) | (at_builtin; (refine wpList_app rfl (.tmp 35) (.tmp 36) 23 rfl w2.heap.size 5 i0 (.int .u8 0) 1 1 Try.underlying23 hi hz0 hz1 hz2 rfl (by decide) (.slice A4 (l.length + p.length) c4) (l.length + p.length) _ rfl ho4 B A' m.length c' (bs m) rfl (h'.below ((hbw2.trans (hb4.mono hbw2.size)).mono hB)) (bs_one _) hm3 hm4 hb4.size ?_); intro v5 w5 ho5 hs5; obtain ⟨A5, c5, rfl, hn5⟩ := own_form ho5; have hb5 := hb4.trans (hs5.below hb4.size (own_ge ho4))) | fail)
  rw [← bs_append, ← bs_append] at ho5
  have r5 := Rd.own ho5
  have hc5 := (own_cap ho5).2
  clear ho5 ho4 ho3 hs4 hs5 hb4 hb3 O
  have G := get_tup (c := c5) w5 _ _ _ HG.out r5 hall.out hn5 hc5
  rw [Int.natCast_add] at G
  go_wp2_with fail
  refine G.mono ?_
  rintro e w6 ⟨rfl, rfl⟩
  clear G r5 HG hall
  obtain ⟨N, hN⟩ : ∃ N, N = min p.length q.length := ⟨_, rfl⟩
  have hmn : ∀ (ts : Array TypeId) (t : TypeId) (wx : World), (Builtin.min_ ts t #[.int .i64 (p.length : Int), .int .i64 (q.length : Int)]).run Try.prog wx = .ok (.int .i64 (N : Int)) wx := by
    intro ts t wx
    rw [run_min_int2]
    split
    · rw [show N = q.length by omega]
    · rw [show N = p.length by omega]
  have hNp : N ≤ p.length := by omega
  have hNq : N ≤ q.length := by omega
  obtain ⟨b, hbv⟩ : ∃ b, b = (((v : Nat) : Int) == ((u : Nat) : Int)) := ⟨_, rfl⟩
  have hE := HE.out N hN
  rw [← hbv] at hE
  have HE2 := Lib_hid hE
  have hbv' := hbv.symm
  have hc1 : p.length ≤ c1 := hcp
  have hc2 : q.length ≤ c2 := hcq
  obtain ⟨P2, hsp, rp2⟩ := slice_hi (rp.below hb5) hNp hc1
  obtain ⟨Q2, hsq, rq2⟩ := slice_hi (rq.below hb5) hNq hc2
  rw [← bs_take] at rp2 rq2
  obtain ⟨⟨x, y, z⟩, hx⟩ : ∃ x, getS m 0 = x := ⟨_, rfl⟩
  have hxx := getS_zero HB'.out hx
  have HX := Lib_hid hx
  have HXX := Lib_hid hxx
  have hbw5 : Below w.heap.size w w5 := hbw2.trans (hb5.mono hbw2.size)
  have hm5 := h'.below (hbw5.mono hB)
  clear hE HE hN hbv hx hxx rp rq hPu hPv hi hz0 hz1 hz2 hm1 hm2 hm3 hm4 h hcp hcq
  by_cases hle : v ≤ u
  all_goals
    try have hlen := hmono hle
    clear hmono
    go_wp2_with fail
    go_quiet ((go_at_call 13; exact same_quiet HE2.out rp2 rq2 (by omega)))
    clear hsp hsq rp2 rq2
    go_wp2_with fail
    refine (get_tup (w5.drewN nq) x y z HX.out (hm5.drewN_ _) HB'.out hn' hc').mono ?_
    rintro e w7 ⟨rfl, rfl⟩
    rcases HXX.out with hz | ⟨rfl, hy, hxe, hx64⟩
    · have hz0 : ((z : Int) == 0) = false := by rw [beq_eq_false_iff_ne]; omega
      clear hz
      go_wp2_with fail
      go_quiet (fail)
      go_wp2_with fail
      refine (works_any _).mono ?_
      rintro e w8 ⟨rfl, hb8⟩
      go_wp2_with fail
      go_ret
      exact ⟨rfl, hbw5.trans ((below_drew_ (Below.refl _ w5)).trans (hb8.mono (by have := hbw5.size; simp; omega)))⟩
    · obtain ⟨M2, hsm, rm2⟩ := slice_hi (hm5.drewN_ nq) hy hn'
      rw [← bs_take, ← hxe] at rm2
      have hPx : Hid (∀ W, Calls Try.prog 12 #[.int .u64 x] W (Made 5 (enc x) W)) := fun W => put_any x W (by omega)
      have hB5 : B ≤ (w5.drewN nq).heap.size := by have := hbw5.size; simp; omega
      have ht := enc_ten hx64
      have hRM : Hid (∀ (W W' : World), Below W.heap.size W W' → W.heap = w5.heap → Rd W' B 1 M2 y (bs (enc x))) := by
        intro W W' hb hW
        refine rm2.keep fun p hp => ?_
        rw [hb.cell (by rw [hW]; have := hbw5.size; omega)]
        exact World.cell?_of_block (by rw [hW]; rfl)
      have hdy : decide (((m.length : Nat) : Int) < ((y : Nat) : Int)) = false := by simp; omega
      have hdy2 : decide (m.length < y) = false := by simp; omega
      clear hxe rm2
      go_wp2_with fail
      go_region_held3 (fun _ => True) (trivial) ((first | (go_at_call 12; refine (hPx.out _).mono ?_; rintro e w8 ⟨A8, c8, rfl, ho8, hb8⟩) | (go_at_call 13; refine (same_yes (enc x) _ (Rd.own ho8) (hRM.out _ _ hb8 rfl) (by omega)).mono ?_; rintro e w9 ⟨rfl, qq, rfl⟩)))
      have hb58 : Below w.heap.size w w8 := hbw5.trans ((below_drew_ (Below.refl _ w5)).trans (hb8.mono (by have := hbw5.size; simp; omega)))
      clear hb8 ho8
      go_wp2_with fail
      refine (works_any _).mono ?_
      rintro e w8 ⟨rfl, hb9⟩
      go_wp2_with fail
      go_ret
      exact ⟨rfl, hb58.trans ((below_drew_ (Below.refl _ _)).trans (hb9.mono (by have := hb58.size; simp; omega)))⟩

end Go.Proofs.Ytaafladmpdkfjaa
