/-
  Layer 7: InternPairs.
-/
import Derived.Test.YtidlpiamiglppaaIpe
import Derived.Test.YtidlpiamiglppaaIwk
namespace Go.Proofs.Ytidlpiamiglppaa
open Go Go.RowKit Go.Maps
set_option linter.unusedVariables false

set_option maxRecDepth 100000 in
set_option maxHeartbeats 800000 in
theorem lpairs_any (B n c : Nat) (A : Option Addr) (l : List PP) (w : World) (h : Rd w B 2 A n (pc l)) (hB : B ≤ w.heap.size) (hn : n ≤ 1000000000) :
    Calls Try.prog 25 #[.slice A n c] w (MadeC 50 2 n (pc l) w) := by
  have HL := Lib_hid (rdp_count h)
  have HH := Lib_hid (fun (W : World) (hW : Below w.heap.size w W) (i : Nat) (hi : i < n) => p_at (h.below (hW.mono hB)) hi)
  clear h
  obtain ⟨i0, hi0, hz0, hz1, hz2⟩ := info_parts Try.infoP
  go_enter Try.func25, Try.ntmps25
  go_wp2
  go_loopw [3, 4] (fun o i wr => ∃ (k c' : Nat) (A' : Option Addr), o = .slice A' k c' ∧ i = .int .i64 k ∧ k ≤ n ∧ Hid (wr.ownsRow w.heap.size 50 2 (.slice A' k c') k (pc (l.take k))) ∧ Hid (Below w.heap.size w wr)) (fun _ i _ => n - (intOf i).toNat)
  case atStart => exact ⟨0, 0, none, rfl, rfl, Nat.zero_le _, own_zero _ _ _ _, Below.refl _ _⟩
  case round =>
    obtain ⟨k, c', A', rfl, rfl, hk, ho, hbw⟩ := hrel
    by_cases hlt : k < n
    · obtain ⟨b, off, rfl, hb, c1, c2⟩ := HH.out _ hbw.out k hlt
      have ht : Hid (l.take (k + 1) = l.take k ++ [at0 l k]) := take_snoc (by rw [HL.out]; exact hlt)
      have hm1 : k + 1 ≤ maxLen := by unfold maxLen; omega
      have hm2 : (k + 1) * 16 ≤ 140737488355328 := by omega
      have hki : (k : Int) < (n : Int) := by omega
      generalize at0 l k = q at *
      have hbd : Hid (Below w.heap.size w wr.drew) := below_drew_ hbw.out (n := 1)
      have hod : wr.drew.ownsRow w.heap.size 50 2 (.slice A' k c') k (pc (l.take k)) := own_keep ho.out fun _ _ => rfl
      have HO := Lib_hid (And.intro (own_below hod (below_new wr.drew (.cells #[.int .u64 (q.1 : Int), .int .u64 (q.2 : Int)] 50)) (own_lt hod)) (rd_pair wr.drew q #[.int .u64 (q.1 : Int), .int .u64 (q.2 : Int)] 50 _ rfl rfl))
      have hbs : w.heap.size ≤ (wr.drew.alloc (.cells #[.int .u64 (q.1 : Int), .int .u64 (q.2 : Int)] 50)).heap.size := by have := hbd.out.size; simp at this ⊢; omega
      have hbn := Lib_hid (hbd.out.alloc hbd.out.size (.cells #[.int .u64 (q.1 : Int), .int .u64 (q.2 : Int)] 50))
      clear hod ho hbw
      go_wp2
      go_region_law
        ((refine step_app rfl (.tmp 11) (.tmp 23) 32 rfl w.heap.size 50 i0 (.agg #[.int .u64 0, .int .u64 0]) 2 16 Try.underlying32 hi0 hz0 hz1 hz2 rfl (by decide) (.slice A' k c') k (pc (l.take k)) (by go_simp) HO.out.1 (wr.heap.size + 1) (some ⟨wr.heap.size, 0, none⟩) 1 1 (pc [q]) (by go_simp) HO.out.2 (pc_one _) hm1 hm2 hbs ?_); intro v' w6 hown6 hst; obtain ⟨A6, cw6, rfl, _⟩ := own_form hown6; rw [← pc_append, ← ht.out] at hown6; have H6 := Lib_hid (And.intro hown6 (hbn.out.grown hst.grow hbs (own_ge HO.out.1))); clear hst hown6)
      all_goals
        go_wp2
        go_roundw
        case rel => exact ⟨k + 1, cw6, A6, rfl, by go_num, by omega, H6.out.1, H6.out.2⟩
        case measure => simp [intOf]; omega
    · obtain rfl : k = n := by omega
      have e : l.take k = l := List.take_of_length_le (by rw [HL.out]; exact Nat.le_refl _)
      rw [e] at ho
      clear e
      go_wp2
      go_ret
      exact ⟨A', c', rfl, ho.out, hbw.out⟩

set_option maxRecDepth 100000 in
set_option maxHeartbeats 4000000 in
theorem ipairs_any (n0 c0 n1 c1 : Nat) (A0 A1 : Option Addr) (l0 l1 : List PP) (p : PP) (hp : U64 p) (k0 : Int) (w : World) (h0 : Rd w w.heap.size 2 A0 n0 (pc l0)) (h1 : Rd w w.heap.size 2 A1 n1 (pc l1)) (hu0 : Us l0) (hu1 : Us l1) (hc0 : n0 ≤ c0 ∧ c0 ≤ 9223372036854775807) (hc1 : n1 ≤ c1 ∧ c1 ≤ 9223372036854775807) :
    Calls Try.prog 4 #[.slice A0 n0 c0, .slice A1 n1 c1, pv p, .int .i64 k0] w fun e w' => e = .returned (.bool true) ∧ Below w.heap.size w w' := by
  have HW := Lib_hid (fun W => works7_any W)
  obtain ⟨X, hX⟩ : ∃ X, X = w.alloc (.cells #[.int .u64 (p.1 : Int), .int .u64 (p.2 : Int)] 59) := ⟨_, rfl⟩
  have hb0 : Below w.heap.size w X := by rw [hX]; exact below_new _ _
  have hsX : X.heap.size = w.heap.size + 1 := by rw [hX]; simp
  have hbx : X.heap[w.heap.size]? = some (.cells #[.int .u64 (p.1 : Int), .int .u64 (p.2 : Int)] 59 (0, 0)) := by rw [hX]; exact heap_alloc_new _ _
  have HX := Lib_hid (And.intro hX (And.intro hb0 (And.intro hsX hbx)))
  have H01 := Lib_hid (fun (W : World) (hW : Below X.heap.size X W) => And.intro (h0.below (hb0.trans (hW.mono (by omega)))) (h1.below (hb0.trans (hW.mono (by omega)))))
  have HL := Lib_hid (And.intro (rdp_count h0) (rdp_count h1))
  clear h0 h1 hX hb0 hsX hbx
  go_enter Try.func4, Try.ntmps4
  by_cases hf : n0 ≤ 30 ∧ n1 ≤ 30
  · obtain ⟨hf0, hf1⟩ := hf
    have d0 : decide (30 < (n0 : Int)) = false := decide_eq_false (by omega)
    have d1 : decide (30 < (n1 : Int)) = false := decide_eq_false (by omega)
    have T0 : Tab kP (X.alloc (.cells #[.slice none 0 0, .map none] 64)) X.heap.size none 0 none [] := Tab.new kP rfl X
    have hb1 := below_new X (.cells #[.slice none 0 0, .map none] 64)
    have hs1 : (X.alloc (.cells #[.slice none 0 0, .map none] 64)).heap.size = X.heap.size + 1 := by simp
    obtain ⟨W0, hW0⟩ : ∃ W0, W0 = X.alloc (.cells #[.slice none 0 0, .map none] 64) := ⟨_, rfl⟩
    rw [← hW0] at T0 hb1 hs1
    have F1 := lpairs_any w.heap.size n0 c0 A0 l0 W0 (H01.out W0 hb1).1 (by have := HX.out.2.2.1; omega) (by omega)
    have H0 := Lib_hid (And.intro T0 (And.intro hb1 hs1))
    have HW0 := Lib_hid hW0
    have HL0 : Hid (∀ k, Own X.heap.size none none k → k = X.heap.size) := fun k hk => by
      rcases hk with e | e | e
      · exact e
      · cases e
      · cases e
    clear T0 hb1 hs1 hW0
    go_upto_region 4 with (fail)
    unfold pv
    have hXX := HX.out.1
    rw [← hXX, ← HW0.out, ← show X.heap.size = w.heap.size + 1 from HX.out.2.2.1]
    clear hXX
    go_wp2_with fail
    refine F1.mono ?_
    rintro e w2 ⟨A2, c2, rfl, ho2, hb2⟩
    have F2 := radd_any w2.heap.size _ 0 n0 0 c2 none A2 [] l0 w2 Rd.zero (Rd.own ho2) (Nat.le_refl _) (Nat.le_refl _) (by omega)
    have H2 := Lib_hid hb2
    clear F1 ho2 hb2
    go_wp2_with fail
    refine F2.mono ?_
    rintro e w3 ⟨A3, c3, rfl, ho3, hb3⟩
    have hb03 := H2.out.trans (hb3.mono H2.out.size)
    have hT3 := H0.out.1.below hb03 H0.out.1.lt
    have hbX3 := H0.out.2.1.trans (hb03.mono H0.out.2.1.size)
    have hsz3 := hb03.size
    have hge3 := Lib_hid (fun k (hk : ob A3 = some k) => own_ge ho3 k (by rw [ob_eq]; exact hk))
    have F3 := qadd_any (c' := c0) hT3 (Rs.of_rd (H01.out w3 hbX3).1 (by have := hbX3.size; have := HX.out.2.2.1; omega) (fun k hk hok => by have := HL0.out k hok; have := HX.out.2.2.1; omega)) hu0 (by simp; omega)
    have hneq : ∀ z : Int, (z != z) = false := fun z => by simp
    have e1 := hneq (lastP [] l0)
    have H3 := Lib_hid (And.intro ho3 (And.intro hbX3 (And.intro hsz3 hb3.size)))
    clear F2 ho3 hb3 hb03 hT3 hbX3 hneq
    go_wp2_with fail
    refine F3.mono ?_
    rintro e w4 ⟨rfl, A4, c4, m4, hT4, hw4, hO4⟩
    have hlen0 := addL_len [] l0
    rw [List.length_nil, HL.out.1] at hlen0
    have ho4 := own_keep H3.out.1 (fun k hk => hw4.block k (own_lt H3.out.1 k hk) (fun hok => by have := HL0.out k hok; have := hge3.out k (by rw [ob_eq] at hk; exact hk); have := H2.out.size; have := H0.out.2.2; omega))
    have hbX4 : Below X.heap.size X w4 := H3.out.2.1.trans (hw4.below (by have := H3.out.2.1.size; omega) (fun k hk => by have := HL0.out k hk; omega))
    have hO4' : ∀ k, Own X.heap.size A4 m4 k → X.heap.size ≤ k := fun k hk => by
      rcases hO4 k hk with h1 | h1
      · have := HL0.out k h1; omega
      · have := H3.out.2.2.1; have := H0.out.2.2; omega
    have F4 := lpairs_any w.heap.size n1 c1 A1 l1 w4 (H01.out w4 hbX4).2 (by have := hbX4.size; have := HX.out.2.2.1; omega) (by omega)
    have H4 := Lib_hid (And.intro hT4 (And.intro ho4 (And.intro hbX4 hO4')))
    clear F3 hT4 hw4 hO4 ho4 hbX4 hO4' H3
    generalize hr0 : addL [] l0 = r0 at *
    clear hr0
    go_wp2_with fail
    refine F4.mono ?_
    rintro e w5 ⟨A5, c5, rfl, ho5, hb5⟩
    have ho45 := own_below H4.out.2.1 hb5 (own_lt H4.out.2.1)
    have F5 := radd_any _ _ r0.length n1 c3 c5 A3 A5 r0 l1 w5 (Rd.own ho45) (Rd.own ho5) (Nat.le_refl _) (Nat.le_refl _) (by omega)
    have H5 := Lib_hid hb5
    clear F4 ho5 hb5 ho45
    go_wp2_with fail
    refine F5.mono ?_
    rintro e w6 ⟨A6, c6, rfl, ho6, hb6⟩
    have hb46 := H5.out.trans (hb6.mono H5.out.size)
    have hT6 := H4.out.1.below hb46 H4.out.1.lt
    have hbX6 := H4.out.2.2.1.trans (hb46.mono H4.out.2.2.1.size)
    have F6 := qadd_any (c' := c1) hT6 (Rs.of_rd (H01.out w6 hbX6).2 (by have := hbX6.size; have := HX.out.2.2.1; omega) (fun k hk hok => by have := H4.out.2.2.2 k hok; have := HX.out.2.2.1; omega)) hu1 (by omega)
    have hneq : ∀ z : Int, (z != z) = false := fun z => by simp
    have e2 := hneq (lastP r0 l1)
    have H6 := Lib_hid (And.intro ho6 (And.intro hbX6 (And.intro H5.out.size hb46.size)))
    have hlt4 := Lib_hid H4.out.1.lt
    clear F5 ho6 hb6 hb46 hT6 hbX6 hneq
    go_wp2_with fail
    refine F6.mono ?_
    rintro e w7 ⟨rfl, A7, c7, m7, hT7, hw7, hO7⟩
    have ho7 := own_keep H6.out.1 (fun k hk => hw7.block k (own_lt H6.out.1 k hk) (fun hok => by have := hlt4.out k hok; have := own_ge H6.out.1 k hk; have := H6.out.2.2.1; omega))
    have hbX7 : Below X.heap.size X w7 := H6.out.2.1.trans (hw7.below (by have := H6.out.2.1.size; omega) (fun k hk => H4.out.2.2.2 k hk))
    have hlen1 := addL_len r0 l1
    rw [HL.out.2] at hlen1
    have HS : Hid (∀ W, Below w7.heap.size w7 W → Tab kP W X.heap.size A7 c7 m7 (addL r0 l1) ∧ W.ownsRow 0 50 2 (.slice A6 (addL r0 l1).length c6) (addL r0 l1).length (pc (addL r0 l1)) ∧ Below X.heap.size X W) := fun W hW =>
      ⟨hT7.below hW hT7.lt, own_base (own_below ho7 hW (own_lt ho7)) (fun k _ => Nat.zero_le k), hbX7.trans (hW.mono hbX7.size)⟩
    clear F6 hT7 hw7 hO7 ho7 hbX7 H6 H4 H5 hlt4 H2 H0 HL0 H01 hge3
    generalize hs : addL r0 l1 = s at *
    clear hs
    have hsl : s.length ≤ 60 := by omega
    have G1 := qlen_any (HS.out _ (Below.refl _ _)).1
    have G2 := qrising_any (HS.out _ (Below.refl _ _)).1 (by omega)
    have hd0 : ((s.length : Int) != (s.length : Int)) = false := by simp
    go_wp2_with fail
    refine G1.mono ?_
    rintro e w7' ⟨rfl, rfl⟩
    clear G1
    go_wp2_with fail
    refine G2.mono ?_
    rintro e w8 ⟨A8, c8, s8, hs8, rfl, ho8, hb8⟩
    have hS8 := HS.out _ hb8
    have G3 := rrising_any w8.heap.size s.length c6 A6 s w8 (Rd.own hS8.2.1) hS8.1.nd (Nat.le_refl _) (by omega)
    have H8 := Lib_hid (And.intro ho8 (And.intro hb8 hs8))
    clear G2 ho8 hb8 hs8 hS8
    go_wp2_with fail
    refine G3.mono ?_
    rintro e w9 ⟨A9, c9, s9, hs9, rfl, ho9, hb9⟩
    have hse := rising_eq H8.out.2.2 hs9
    rw [← hse] at ho9
    have ho89 := own_below H8.out.1 hb9 (own_lt H8.out.1)
    have G4 := sameI_any _ _ A8 A9 s.length s.length c8 c9 s8 w9 (Rd.own ho89) (Rd.own ho9) (by omega)
    have H9 := Lib_hid (H8.out.2.1.trans (hb9.mono H8.out.2.1.size))
    clear G3 hs9 ho9 hb9 ho89 hse H8
    go_wp2_with fail
    refine G4.mono ?_
    rintro e w10 ⟨rfl, q10, hq10⟩
    have hb10 : Hid (Below w7.heap.size w7 w10) := by rw [hq10]; exact below_drew_ H9.out
    clear G4 hq10 H9
    have hS10 := HS.out _ hb10.out
    have hbx10 := (hS10.2.2.block w.heap.size (by have := HX.out.2.2.1; omega)).trans HX.out.2.2.2
    have g0 := cell_of_row w10 w.heap.size 0 _ _ _ hbx10
    have g1 := cell_of_row w10 w.heap.size 1 _ _ _ hbx10
    simp at g0 g1
    have hgl := (Array.getElem?_eq_some_iff.1 hbx10).1
    have G5 := qfind_any hS10.1 hp
    have G6 := fun (W : World) (hW : Below w7.heap.size w7 W) => rfind_any W.heap.size s.length c6 A6 s p W (Rd.own (HS.out W hW).2.1) (Nat.le_refl _) (by omega)
    have HG6 := Lib_hid G6
    unfold pv at G5
    have hdn : ((numP s p : Int) != (numP s p : Int)) = false := by simp
    have hdb : (hasP s p != hasP s p) = false := by simp
    clear hS10 G6
    unfold pv fv at HG6
    generalize numP s p = fn at *
    generalize hasP s p = fb at *
    go_wp2_with fail
    refine G5.mono ?_
    rintro e w11 ⟨rfl, hb11⟩
    have hbx11 := (hb11.block w.heap.size hgl).trans hbx10
    have g2 := cell_of_row w11 w.heap.size 0 _ _ _ hbx11
    have g3 := cell_of_row w11 w.heap.size 1 _ _ _ hbx11
    simp at g2 g3
    have hb711 := Lib_hid (hb10.out.trans (hb11.mono hb10.out.size))
    have G7 := HG6.out _ hb711.out
    clear G5 hb11 g0 g1 hbx10 hbx11 hb10 HG6 hgl
    go_wp2_with fail
    refine G7.mono ?_
    rintro e w12 ⟨rfl, hb12⟩
    have hb712 := Lib_hid (hb711.out.trans (hb12.mono hb711.out.size))
    clear G7 hb12 g2 g3 hb711
    have G8 := qname_any (HS.out _ hb712.out).1 k0
    have HG9 := Lib_hid (fun (W : World) (hW : Below w7.heap.size w7 W) => rname_any W.heap.size s.length c6 A6 s k0 W (Rd.own (HS.out W hW).2.1) (Nat.le_refl _))
    unfold pv at G8 HG9
    have hneq : ∀ z : Int, (z != z) = false := fun z => by simp
    have hda := hneq ((nameP s k0).1.1 : Int)
    have hdc := hneq ((nameP s k0).1.2 : Int)
    have hde := hneq (nameP s k0).2
    clear hneq
    generalize ((nameP s k0).1.1 : Int) = na at *
    generalize ((nameP s k0).1.2 : Int) = nb at *
    generalize (nameP s k0).2 = ne at *
    go_wp2_with fail
    refine G8.mono ?_
    rintro e w13 ⟨rfl, hb13⟩
    have hb713 := hb712.out.trans (hb13.mono hb712.out.size)
    have hbz := Lib_hid (hb713.alloc hb713.size (.cells #[.int .u64 na, .int .u64 nb] 59))
    have hbq := Lib_hid (heap_alloc_new w13 (.cells #[.int .u64 na, .int .u64 nb] 59))
    have hsq : (w13.alloc (.cells #[.int .u64 na, .int .u64 nb] 59)).heap.size = w13.heap.size + 1 := by simp
    have G9 := HG9.out _ hbz.out
    clear G8 hb13 hb713 HG9 hb712
    go_wp2_with fail
    refine G9.mono ?_
    rintro e w14 ⟨rfl, hb14⟩
    have hbx14 := (hb14.block w13.heap.size (by omega)).trans hbq.out
    have hb714 := Lib_hid (hbz.out.trans (hb14.mono hbz.out.size))
    have g4 := cell_of_row w14 w13.heap.size 0 _ _ _ hbx14
    have g5 := cell_of_row w14 w13.heap.size 1 _ _ _ hbx14
    simp at g4 g5
    have hgl4 := (Array.getElem?_eq_some_iff.1 hbx14).1
    have hb715 := Lib_hid (hb714.out.alloc hb714.out.size (.cells #[.int .u64 na, .int .u64 nb] 50))
    clear G9 hb14 hbx14 hbz hbq hsq hb714
    go_upto_region 16 with (fail)
    clear g4 g5 hgl4
    generalize w14.alloc (.cells #[.int .u64 na, .int .u64 nb] 50) = w15 at *
    go_wp2
    go_loopw [22] (fun i W => ∃ k : Nat, i = .int .i64 k ∧ k ≤ s.length ∧ Hid (Below w7.heap.size w7 W)) (fun i _ => s.length - (intOf i).toNat)
    case atStart => exact ⟨0, rfl, Nat.zero_le _, hb715⟩
    case round =>
      obtain ⟨k, rfl, hk, hbk⟩ := hrel
      rename World => w16
      by_cases hkl : k < s.length
      · have hSk := HS.out _ hbk.out
        have hki : (k : Int) < (s.length : Int) := by omega
        have G := qname_any hSk.1 (k : Int)
        rw [show nameP s (k : Int) = (at0 s k, 0) by unfold nameP; rw [if_pos (by omega)]; rfl] at G
        unfold pv at G
        have HP := Lib_hid (fun (W : World) (hW : Below w7.heap.size w7 W) => p_at (Rd.own (HS.out W hW).2.1) hkl)
        have hcp := own_cap hSk.2.1
        have hneq : ∀ z : Int, (z != z) = false := fun z => by simp
        have hda' := hneq ((at0 s k).1 : Int)
        have hdc' := hneq ((at0 s k).2 : Int)
        clear hneq hSk
        generalize ((at0 s k).1 : Int) = x1 at *
        generalize ((at0 s k).2 : Int) = x2 at *
        go_wp2_with fail
        refine G.mono ?_
        rintro e w17 ⟨rfl, hb17⟩
        have hb717 := hbk.out.trans (hb17.mono hbk.out.size)
        have hb718 := Lib_hid (hb717.alloc hb717.size (.cells #[.int .u64 x1, .int .u64 x2] 59))
        obtain ⟨bb, off, rfl, hbb, q1, q2⟩ := HP.out _ hb718.out
        have hbn := heap_alloc_new w17 (.cells #[.int .u64 x1, .int .u64 x2] 59)
        have y0 : (w17.alloc (.cells #[.int .u64 x1, .int .u64 x2] 59)).cell? ⟨w17.heap.size, 0, none⟩ = some (.int .u64 x1) := cell_of_row _ w17.heap.size 0 _ _ _ hbn
        have y1 : (w17.alloc (.cells #[.int .u64 x1, .int .u64 x2] 59)).cell? ⟨w17.heap.size, 1, none⟩ = some (.int .u64 x2) := cell_of_row _ w17.heap.size 1 _ _ _ hbn
        clear G hb17 hb717 HP hbn
        go_upto_region 20 with (fail)
        generalize w17.alloc (.cells #[.int .u64 x1, .int .u64 x2] 59) = w18 at *
        go_quiet (fail)
        have hb719 : Hid (Below w7.heap.size w7 (w18.drewN nq)) := below_drew_ hb718.out
        go_wp2
        go_roundw
        case rel => exact ⟨k + 1, by go_num, by omega, hb719⟩
        case measure => simp [intOf]; omega
      · obtain rfl : k = s.length := by omega
        have hbw := Lib_hid (HX.out.2.1.trans ((HS.out _ hbk.out).2.2.mono (by have := HX.out.2.2.1; omega)))
        clear hbk HS
        go_wp2_with fail
        refine (HW.out _).mono ?_
        rintro e w20 ⟨rfl, hb20⟩
        have hbf := Lib_hid (hbw.out.trans (hb20.mono hbw.out.size))
        clear hb20
        go_wp2
        go_ret
        exact ⟨rfl, hbf.out⟩
  · have hbf : Hid (Below w.heap.size w X) := HX.out.2.1
    unfold pv
    by_cases hf0 : n0 ≤ 30
    · have d0 : decide (30 < (n0 : Int)) = false := decide_eq_false (by omega)
      have d1 : decide (30 < (n1 : Int)) = true := decide_eq_true (by omega)
      have hXX := HX.out.1
      clear hf
      go_wp2_with fail
      rw [← hXX]
      refine (HW.out _).mono ?_
      rintro e w20 ⟨rfl, hb20⟩
      have hbf := Lib_hid (hbf.out.trans (hb20.mono hbf.out.size))
      clear hb20
      go_wp2
      go_ret
      exact ⟨rfl, hbf.out⟩
    · have d0 : decide (30 < (n0 : Int)) = true := decide_eq_true (by omega)
      have hXX := HX.out.1
      clear hf
      go_wp2_with fail
      rw [← hXX]
      refine (HW.out _).mono ?_
      rintro e w20 ⟨rfl, hb20⟩
      have hbf := Lib_hid (hbf.out.trans (hb20.mono hbf.out.size))
      clear hb20
      go_wp2
      go_ret
      exact ⟨rfl, hbf.out⟩

end Go.Proofs.Ytidlpiamiglppaa
