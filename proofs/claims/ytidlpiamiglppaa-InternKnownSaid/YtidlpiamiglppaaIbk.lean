/-
  Layer 7: InternBack.
-/
import Derived.Test.YtidlpiamiglppaaIbp
namespace Go.Proofs.Ytidlpiamiglppaa
open Go Go.RowKit Go.Maps
set_option linter.unusedVariables false

theorem uc_new2 (w : World) (z : Int) (q : PP) (hz : z = (q.1 : Int)) (t : TypeId) : Rd (w.alloc (.cells #[.int .u64 z] t)) (w.heap.size + 1) 1 (some ⟨w.heap.size, 0, none⟩) 1 (uc [q]) := by
  subst hz
  exact uc_new w q t

set_option maxRecDepth 100000 in
set_option maxHeartbeats 4000000 in
theorem iback_any (n c : Nat) (A : Option Addr) (vs : List Value) (ls : List (List PP)) (b a : Nat) (hb : b < 18446744073709551616) (ha : a < 18446744073709551616) (w : World) (h : Rd w w.heap.size 1 A n vs) (hw : Nws w w.heap.size vs ls) (hc : n ≤ c ∧ c ≤ 9223372036854775807) :
    Calls Try.prog 5 #[.slice A n c, .int .u64 (b : Int), .int .u64 (a : Int)] w fun e w' => e = .returned (.bool true) ∧ Below w.heap.size w w' := by
  have FE := few_any _ _ n c A vs ls w h hw (by omega)
  have HW := Lib_hid (fun W => works7_any W)
  have HN := Lib_hid (hw.count h)
  have HA := Lib_hid (fun (W : World) (hW : Below w.heap.size w W) (k : Nat) (hk : k < n) => (hw.below hW).at (h.below hW) hk)
  clear h hw
  go_enter Try.func5, Try.ntmps5
  go_wp2_with fail
  refine FE.mono ?_
  rintro e w0 ⟨bb, rfl, rfl, hbb⟩
  clear FE
  cases bb with
  | false =>
    clear hbb
    go_wp2_with fail
    refine (HW.out _).mono ?_
    rintro e w1 ⟨rfl, hb1⟩
    go_wp2
    go_ret
    exact ⟨rfl, hb1⟩
  | true =>
    obtain ⟨hn12, hfew⟩ := hbb rfl
    have HFW := Lib_hid hfew
    have T0 : Tab kU (w.alloc (.cells #[.slice none 0 0, .map none] 31)) w.heap.size none 0 none [] := Tab.new kU rfl w
    have hs0 : (w.alloc (.cells #[.slice none 0 0, .map none] 31)).heap.size = w.heap.size + 1 := by simp
    have hb0 := below_new w (.cells #[.slice none 0 0, .map none] 31)
    have T1 : Tab kU ((w.alloc (.cells #[.slice none 0 0, .map none] 31)).alloc (.cells #[.slice none 0 0, .map none] 31)) w.heap.size none 0 none [] := T0.turns (turns_alloc (fun _ => False) _ _) (fun _ _ h => h)
    have T2 : Tab kU ((w.alloc (.cells #[.slice none 0 0, .map none] 31)).alloc (.cells #[.slice none 0 0, .map none] 31)) (w.heap.size + 1) none 0 none [] := by
      have := Tab.new kU rfl (w.alloc (.cells #[.slice none 0 0, .map none] 31))
      rw [hs0] at this
      exact this
    have hb1 := hb0.alloc (by omega) (.cells #[.slice none 0 0, .map none] 31)
    have HT0 := Lib_hid (And.intro T1 (And.intro T2 hb1))
    clear hbb hfew T0 hb0 T1 T2 hs0 hb1
    obtain ⟨i0, hi, hz0, hz1, hz2⟩ := info_parts Try.infoU
    have HI : Hid (∀ p q, NmU p → NmU q → turnP b a p = turnP b a q → p = q) := fun p q => turnP_inj hb p q
    go_wp2
    go_loopw [9, 10] (fun r i wr => ∃ (j c1 c2 : Nat) (A1 A2 : Option Addr) (m1 m2 : Option Nat) (Ar : Option Addr) (cr : Nat), r = .slice Ar (accL ls j).length cr ∧ i = .int .i64 j ∧ j ≤ n ∧ Hid (Tab kU wr w.heap.size A1 c1 m1 (accL ls j)) ∧ Hid (Tab kU wr (w.heap.size + 1) A2 c2 m2 ((accL ls j).map (turnP b a))) ∧ Hid (wr.ownsRow w.heap.size 23 1 (.slice Ar (accL ls j).length cr) (accL ls j).length (uc (accL ls j))) ∧ Hid (∀ k, Own w.heap.size A1 m1 k → w.heap.size ≤ k) ∧ Hid (∀ k, Own (w.heap.size + 1) A2 m2 k → w.heap.size ≤ k ∧ ¬ Own w.heap.size A1 m1 k) ∧ Hid (∀ k, ob Ar = some k → ¬ Own w.heap.size A1 m1 k ∧ ¬ Own (w.heap.size + 1) A2 m2 k) ∧ Hid (Below w.heap.size w wr) ∧ Hid ((accL ls j).length ≤ 30 * j)) (fun _ i _ => n - (intOf i).toNat)
    case atStart =>
      refine ⟨0, 0, 0, none, none, none, none, none, 0, rfl, rfl, Nat.zero_le _, HT0.out.1, HT0.out.2.1, own_zero _ _ _ _, (fun k hk => ?_), (fun k hk => ?_), (fun k hk => by cases hk), HT0.out.2.2, Nat.le_refl _⟩
      · rcases hk with e | e | e
        · omega
        · cases e
        · cases e
      · rcases hk with e | e | e
        · refine ⟨by omega, ?_⟩
          rintro (e2 | e2 | e2)
          · omega
          · cases e2
          · cases e2
        · cases e
        · cases e
    case round =>
      obtain ⟨j, c1, c2, A1, A2, m1, m2, Ar, cr, rfl, rfl, hj, hT, hU, hR, hO, hP, hD, hB, hLn⟩ := hrel
      by_cases hlt : j < n
      · have hdi : decide ((j : Int) < (n : Int)) = true := decide_eq_true (by omega)
        have hdn : decide (j < n) = true := decide_eq_true hlt
        obtain ⟨ad, Al, nl, cl, rfl, hadb, k1, e, hr2, hus, hzs, hc2, hc2'⟩ := HA.out wr hB.out j hlt
        have hn2 : nl ≤ 30 := HFW.out j Al nl cl hlt e
        have HRow := Lib_hid (And.intro (rdu_count hr2) (And.intro hus hzs))
        have HSucc := Lib_hid (accL_succ (ls := ls) (i := j) (by rw [HN.out]; exact hlt))
        have HJ : Hid ((accL ls j).length ≤ 1000) := by have := hLn.out; unfold Hid; omega
        have HC1 := Lib_hid (fun (W : World) (hW : Below wr.heap.size wr W) => And.intro ((hW.cell (p := ad.add j) (by rw [add_block]; have := hB.out.size; omega)).trans k1) (hr2.below (hW.mono hB.out.size)))
        generalize hg : ls.getD j [] = row at *
        have HG := Lib_hid hg
        clear hg
        generalize hacc : accL ls j = acc at *
        have HAcc := Lib_hid hacc
        have hsz0 := hB.out.size
        have HUA := Lib_hid (fun (W : World) (hW : Below wr.heap.size wr W) (k : Nat) (hk : k < nl) => u_at (HC1.out W hW).2 hk)
        clear hacc e hr2 hus hzs k1
        go_wp2
        go_loopw [11, 12] (fun o i W => ∃ (k co : Nat) (Ao : Option Addr), o = .slice Ao k co ∧ i = .int .i64 k ∧ k ≤ nl ∧ W.ownsRow wr.heap.size 23 1 (.slice Ao k co) k (uc ((row.take k).map (turnP b a))) ∧ Below wr.heap.size wr W) (fun _ i _ => nl - (intOf i).toNat)
        case atStart => exact ⟨0, 0, none, rfl, rfl, Nat.zero_le _, own_zero _ _ _ _, Below.refl _ _⟩
        case round =>
          obtain ⟨k, co, Ao, rfl, rfl, hk, ho, hbo⟩ := hrel
          rename World => w1
          have k1 := (HC1.out w1 hbo).1
          by_cases hkl : k < nl
          · obtain ⟨ad2, rfl, hb2, k2⟩ := HUA.out w1 hbo k hkl
            have hkr : k < row.length := by rw [HRow.out.1]; exact hkl
            have hv : (at0 row k).1 < 18446744073709551616 := (HRow.out.2.1 _ (at0_mem hkr)).1
            have ht : Hid ((row.take (k + 1)).map (turnP b a) = (row.take k).map (turnP b a) ++ [turnP b a (at0 row k)]) := by unfold Hid; rw [take_snoc hkr, List.map_append]; rfl
            have hxr := turn_xor b (at0 row k).1 hb hv
            have hxa := turn_add b a (at0 row k).1
            have hm1 : k + 1 ≤ maxLen := by unfold maxLen; omega
            have hm2 : (k + 1) * 8 ≤ 140737488355328 := by omega
            have hbs := hbo.size
            have hki : (k : Int) < (nl : Int) := by omega
            clear hkr hv
            generalize hq : turnP b a (at0 row k) = q at *
            have hq1 : turnN b a (at0 row k).1 = q.1 := by rw [← hq]; rfl
            rw [hq1] at hxa
            clear hq hq1
            generalize (at0 row k).1 = v at *
            have ho1 := own_below ho (below_new w1 (.cells #[.int .u64 (q.1 : Int)] 23)) (own_lt ho)
            have hr1 := uc_new w1 q 23
            have hbn := hbo.alloc hbs (.cells #[.int .u64 (q.1 : Int)] 23)
            have hbs2 : wr.heap.size ≤ (w1.alloc (.cells #[.int .u64 (q.1 : Int)] 23)).heap.size := by simp; omega
            clear ho
            go_wp2_with (at_builtin; (refine wpList_app rfl _ _ 26 rfl wr.heap.size 23 i0 (.int .u64 0) 1 8 Try.underlying26 hi hz0 hz1 hz2 rfl (by decide) _ k _ rfl ho1 (w1.heap.size + 1) (some ⟨w1.heap.size, 0, none⟩) 1 1 (uc [q]) rfl hr1 (uc_one _) hm1 hm2 hbs2 ?_); intro v' w2 hown hst; obtain ⟨Ao2, co2, rfl, _⟩ := own_form hown; rw [← uc_append, ← ht.out] at hown; have hbw2 := hbn.grown hst.grow hbs2 (own_ge ho1); clear hst ho1 hr1 hbn)
            go_roundw
            case rel => exact ⟨k + 1, co2, Ao2, rfl, by go_num, by omega, hown, hbw2⟩
            case measure => simp [intOf]; omega
          · obtain rfl : k = nl := by omega
            have e : row.take k = row := List.take_of_length_le (by rw [HRow.out.1]; exact Nat.le_refl _)
            rw [e] at ho
            clear e hkl hk HUA
            have hsz1 := hbo.size
            have hrow := HRow.out
            have hT1 := hT.out.below hbo hT.out.lt
            have hU1 := hU.out.below hbo hU.out.lt
            have hR1 := own_below hR.out hbo (own_lt hR.out)
            have hrn : ∀ q ∈ row, NmU q := Us.nm hrow.2.1 hrow.2.2
            have han : ∀ q ∈ acc, NmU q := hT1.al
            have F1 := tadd_any (c' := cl) hT1 (Rs.of_rd (HC1.out w1 hbo).2 (by omega) (fun k hk hok => by have := hO.out k hok; omega)) hrn (by have := HJ.out; omega)
            have HM : Hid (addL (acc.map (turnP b a)) (row.map (turnP b a)) = (addL acc row).map (turnP b a) ∧ lastP (acc.map (turnP b a)) (row.map (turnP b a)) = lastP acc row) := ⟨addL_map HI.out han hrn, lastP_map HI.out han hrn⟩
            have H1 := Lib_hid (And.intro hU1 (And.intro hR1 (And.intro ho hbo)))
            have HRN := Lib_hid (And.intro hrn han)
            have hc1 := own_cap ho
            clear hT1 hU1 hR1 hrn han ho hbo hrow
            go_wp2_with fail
            refine F1.mono ?_
            rintro e w2 ⟨rfl, A3, c3, m3, hT2, hw2, hO2⟩
            have hT0lt := hT.out.lt
            have hU0lt := hU.out.lt
            have hU2 := H1.out.1.turns hw2 (fun k hk => (hP.out k hk).2)
            have hR2 := own_keep H1.out.2.1 (fun k hk => hw2.block k (own_lt H1.out.2.1 k hk) (hD.out k (by rw [ob_eq] at hk; exact hk)).1)
            have hoo2 := own_keep H1.out.2.2.1 (fun k hk => hw2.block k (own_lt H1.out.2.2.1 k hk) (fun hok => by have := own_ge H1.out.2.2.1 k hk; have := hT0lt k hok; omega))
            have F2 := tadd_any (c' := co) hU2 (Rs.of_own hoo2 (fun k hk hok => by have := own_ge hoo2 k (by rw [ob_eq]; exact hk); have := hU0lt k hok; omega)) (fun q hq => by
              obtain ⟨q', _, rfl⟩ := List.mem_map.1 hq
              exact turnP_nm b a q') (by have := HJ.out; rw [List.length_map]; omega)
            have hsz2 := hw2.size
            have H2 := Lib_hid (And.intro hT2 (And.intro hw2 (And.intro hO2 (And.intro hR2 hsz2))))
            have hneq : ∀ z : Int, (z != z) = false := fun z => by simp
            have hd0 := hneq (lastP acc row)
            clear F1 hT2 hw2 hO2 hU2 hR2 hoo2 hneq
            go_wp2_with fail
            refine F2.mono ?_
            rintro e w3 ⟨rfl, A4, c4, m4, hU3, hw3, hO3⟩
            rw [HM.out.1] at hU3
            rw [HM.out.2]
            have hT3 : Tab kU w3 w.heap.size A3 c3 m3 (addL acc row) := H2.out.1.turns hw3 (fun k hk hok => by
              rcases H2.out.2.2.1 k hk with h1 | h1
              · exact (hP.out k hok).2 h1
              · have := hU0lt k hok; omega)
            have hR3 := own_keep H2.out.2.2.2.1 (fun k hk => hw3.block k (own_lt H2.out.2.2.2.1 k hk) (hD.out k (by rw [ob_eq] at hk; exact hk)).2)
            have hsz3 := hw3.size
            have hb3 : Below w.heap.size w w3 := hB.out.trans ((H1.out.2.2.2.mono hsz0).trans ((H2.out.2.1.below (by omega) (fun k hk => hO.out k hk)).trans (hw3.below (by omega) (fun k hk => (hP.out k hk).1))))
            have hO' : ∀ k, Own w.heap.size A3 m3 k → w.heap.size ≤ k := fun k hk => by
              rcases H2.out.2.2.1 k hk with h1 | h1
              · exact hO.out k h1
              · omega
            have hP' : ∀ k, Own (w.heap.size + 1) A4 m4 k → w.heap.size ≤ k ∧ ¬ Own w.heap.size A3 m3 k := fun k hk => by
              rcases hO3 k hk with h1 | h1
              · refine ⟨(hP.out k h1).1, fun hok => ?_⟩
                rcases H2.out.2.2.1 k hok with h2 | h2
                · exact (hP.out k h1).2 h2
                · have := hU0lt k h1; omega
              · exact ⟨by omega, fun hok => by have := H2.out.1.lt k hok; omega⟩
            have hlt3 : (∀ k, Own w.heap.size A3 m3 k → k < w3.heap.size) ∧ ∀ k, Own (w.heap.size + 1) A4 m4 k → k < w3.heap.size := ⟨hT3.lt, hU3.lt⟩
            have hL' : Hid ((addL acc row).length ≤ 30 * (j + 1)) := by have := addL_len acc row; have := HRow.out.1; have := hLn.out; unfold Hid; omega
            have hpre : Hid (acc <+: addL acc row) := addL_pre acc row
            have hpl : acc.length ≤ (addL acc row).length := (addL_pre acc row).length_le
            have HTL : Hid (∀ W, Below w3.heap.size w3 W → Tab kU W w.heap.size A3 c3 m3 (addL acc row) ∧ Tab kU W (w.heap.size + 1) A4 c4 m4 ((addL acc row).map (turnP b a)) ∧ W.ownsRow w.heap.size 23 1 (.slice Ar acc.length cr) acc.length (uc acc) ∧ Below w.heap.size w W) := fun W hW =>
              ⟨hT3.below hW hT3.lt, hU3.below hW hU3.lt, own_below hR3 hW (own_lt hR3), hb3.trans (hW.mono hb3.size)⟩
            have HX := Lib_hid (And.intro hO' (And.intro hP' hlt3))
            clear hT3 hU3 hR3 hb3 hO' hP' hlt3 hw3 hO3 F2 H1 H2 HRN HM hT hU hR hO hP hD hB HC1 HT0 hT0lt hU0lt
            generalize hacc' : addL acc row = acc' at *
            have HAcc' := Lib_hid hacc'
            clear hacc'
            have F3 := tlen_any (HTL.out _ (Below.refl _ _)).1
            have F4 := tlen_any (HTL.out _ (Below.refl _ _)).2.1
            rw [List.length_map] at F4
            have F5 := tnames_any (HTL.out _ (Below.refl _ _)).1 (by have := hL'.out; omega)
            have hd1 : ((acc'.length : Int) != (acc'.length : Int)) = false := by simp
            have hd2 : decide (acc'.length < acc.length) = false := decide_eq_false (by omega)
            go_wp2_with fail
            refine F3.mono ?_
            rintro e w3' ⟨rfl, rfl⟩
            clear F3
            go_wp2_with fail
            refine F4.mono ?_
            rintro e w3' ⟨rfl, rfl⟩
            clear F4
            go_wp2_with fail
            refine F5.mono ?_
            rintro e w4 ⟨An, cn, rfl, hon, hb4⟩
            have H4 := HTL.out _ hb4
            have hcn := own_cap hon
            have hcr := own_cap H4.2.2.1
            have HO4 := Lib_hid (And.intro hon hb4)
            have HR4 := Lib_hid (fun (k : Nat) (hk : k < acc.length) => u_at (Rd.own H4.2.2.1) hk)
            have HN4 := Lib_hid (fun (k : Nat) (hk : k < acc'.length) => u_at (Rd.own hon) hk)
            have HK := Lib_hid (fun (k : Nat) (hk : k < acc.length) => at0_pre hpre.out hk)
            clear F5 hon hb4 H4
            go_wp2
            go_loopw [14] (fun i W => ∃ k q : Nat, i = .int .i64 k ∧ k ≤ acc.length ∧ W = w4.drewN q) (fun i _ => acc.length - (intOf i).toNat)
            case atStart => exact ⟨0, 0, rfl, Nat.zero_le _, rfl⟩
            case round =>
              obtain ⟨k, q, rfl, hk, rfl⟩ := hrel
              by_cases hkl : k < acc.length
              · obtain ⟨ad3, rfl, _, k3⟩ := HR4.out k hkl
                obtain ⟨ad4, rfl, _, k4⟩ := HN4.out k (by omega)
                have hkn : k < acc'.length := by omega
                have hki : (k : Int) < (acc.length : Int) := by omega
                have hki' : (k : Int) < (acc'.length : Int) := by omega
                rw [HK.out k hkl] at k4
                have hdz : (((at0 acc k).1 : Int) != ((at0 acc k).1 : Int)) = false := by simp
                generalize (at0 acc k).1 = z at *
                clear hk
                go_wp2
                go_quiet (fail)
                go_wp2
                go_roundw
                case rel => exact ⟨k + 1, q + nq, by go_num, by omega, rfl⟩
                case measure => simp [intOf]; omega
              · obtain rfl : k = acc.length := by omega
                have hb5 : Hid (Below w3.heap.size w3 (w4.drewN q)) := below_drew_ HO4.out.2
                have hon5 := own_below HO4.out.1 (below_drew_ (Below.refl w4.heap.size w4) (n := q)) (own_lt HO4.out.1)
                have H5 := Lib_hid (And.intro (HTL.out _ hb5.out) hon5)
                have HN5 := Lib_hid (fun (k : Nat) (hk : k < acc'.length) => u_at (Rd.own hon5) hk)
                have hge := Lib_hid (fun k (hk : ob An = some k) => own_ge HO4.out.1 k (by rw [ob_eq]; exact hk))
                have e1 : Hid (accL ls (j + 1) = acc') := by have := HSucc.out; unfold Hid; rw [this]
                clear HTL HR4 HN4 HO4 HK hon5 hkl hk
                generalize w4.drewN q = w5 at *
                go_wp2
                go_loop [15] (fun i => ∃ k : Nat, i = .int .i64 k ∧ k ≤ acc'.length) (fun i => acc'.length - (intOf i).toNat)
                case atStart => exact ⟨0, rfl, Nat.zero_le _⟩
                case round =>
                  obtain ⟨k, rfl, hk⟩ := hrel
                  by_cases hkl : k < acc'.length
                  · obtain ⟨ad4, rfl, _, k4⟩ := HN5.out k hkl
                    have hki : (k : Int) < (acc'.length : Int) := by omega
                    have hmem := at0_mem hkl
                    have hnm : NmU (at0 acc' k) := H5.out.1.1.al _ hmem
                    have F1 := tfind_any H5.out.1.1 hnm
                    have F2 := tname_any H5.out.1.1 (k : Int)
                    have F3 := tfind_any H5.out.1.2.1 (q := turnP b a (at0 acc' k)) (turnP_nm b a _)
                    have hal : ∀ q ∈ acc', NmU q := H5.out.1.1.al
                    have hidx := idx_at H5.out.1.1.nd hkl
                    rw [numP_old hmem, hidx, show hasP acc' (at0 acc' k) = true by unfold hasP; exact decide_eq_true hmem] at F1
                    rw [show nameP acc' (k : Int) = (at0 acc' k, 0) by unfold nameP; rw [if_pos (by omega)]; rfl] at F2
                    have hmem2 := (mem_map_iff HI.out hal hnm).2 hmem
                    rw [numP_old hmem2, idx_map HI.out hal hnm, hidx, show hasP (acc'.map (turnP b a)) (turnP b a (at0 acc' k)) = true by unfold hasP; exact decide_eq_true hmem2] at F3
                    have hxr := turn_xor b (at0 acc' k).1 hb hnm.1
                    have hxa := turn_add b a (at0 acc' k).1
                    have e0 : (turnP b a (at0 acc' k)).1 = turnN b a (at0 acc' k).1 := rfl
                    rw [e0] at F3
                    have hdz : (((at0 acc' k).1 : Int) != ((at0 acc' k).1 : Int)) = false := by simp
                    have hdk : ((k : Int) != (k : Int)) = false := by simp
                    clear hmem hnm hidx hal hmem2 e0
                    generalize turnN b a (at0 acc' k).1 = z2 at *
                    generalize (at0 acc' k).1 = z at *
                    go_wp2_with fail
                    refine F1.mono ?_
                    rintro e w5' ⟨rfl, rfl⟩
                    clear F1
                    go_wp2_with fail
                    refine F2.mono ?_
                    rintro e w5' ⟨rfl, rfl⟩
                    clear F2
                    go_wp2_with fail
                    refine F3.mono ?_
                    rintro e w5' ⟨rfl, rfl⟩
                    clear F3
                    go_wp2
                    go_round
                    case rel => exact ⟨k + 1, by go_num, by omega⟩
                    case measure => simp [intOf]; omega
                  · obtain rfl : k = acc'.length := by omega
                    have HD : Hid (∀ k, ob An = some k → ¬ Own w.heap.size A3 m3 k ∧ ¬ Own (w.heap.size + 1) A4 m4 k) := fun k hk =>
                      ⟨fun hok => by have := HX.out.2.2.1 k hok; have := hge.out k hk; omega, fun hok => by have := HX.out.2.2.2 k hok; have := hge.out k hk; omega⟩
                    have hRn := Lib_hid (own_base (b' := w.heap.size) H5.out.2 (fun k hk => by have := hge.out k (by rw [ob_eq] at hk; exact hk); omega))
                    clear HN5 hkl hk
                    go_wp2
                    go_roundw
                    case rel => exact ⟨j + 1, c3, c4, A3, A4, m3, m4, An, cn, by rw [e1.out], by go_num, by omega, by rw [e1.out]; exact H5.out.1.1, by rw [e1.out]; exact H5.out.1.2.1, by rw [e1.out]; exact hRn.out, HX.out.1, HX.out.2.1, HD.out, H5.out.1.2.2.2, by rw [e1.out]; exact hL'.out⟩
                    case measure => simp [intOf]; omega
      · obtain rfl : j = n := by omega
        clear hT hU hR hO hP hD hLn HT0 hlt hj
        go_wp2_with fail
        refine (HW.out _).mono ?_
        rintro e w6 ⟨rfl, hb6⟩
        have hbf := Lib_hid (hB.out.trans (hb6.mono hB.out.size))
        clear hb6
        go_wp2
        go_ret
        exact ⟨rfl, hbf.out⟩

end Go.Proofs.Ytidlpiamiglppaa
