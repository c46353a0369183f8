/-
  Layer 7: InternPlays.
-/
import Derived.Test.YtidlpiamiglppaaIwk
namespace Go.Proofs.Ytidlpiamiglppaa
open Go Go.RowKit Go.Maps
set_option linter.unusedVariables false

/-- The names of the first i rows. -/
def accL (ls : List (List PP)) (i : Nat) : List PP := (ls.take i).foldl addL []
theorem accL_zero (ls : List (List PP)) : accL ls 0 = [] := rfl
theorem accL_succ {ls : List (List PP)} {i : Nat} (h : i < ls.length) : accL ls (i + 1) = addL (accL ls i) (ls.getD i []) := by
  unfold accL
  rw [List.take_add_one, List.getElem?_eq_getElem h, List.foldl_append, List.getD_eq_getElem?_getD, List.getElem?_eq_getElem h]
  rfl
theorem own_ne {A : Option Addr} {p : Nat} {A' : Option Addr} {m : Option Nat} {S : Nat → Prop} {B : Nat} (h : ∀ k, Own p A' m k → k < B) (hA : ∀ k, ob A = some k → B ≤ k) : ∀ k, ob A = some k → ¬ Own p A' m k := fun k hk ho => by
  have := h k ho; have := hA k hk; omega

set_option maxRecDepth 100000 in
set_option maxHeartbeats 4000000 in
theorem iplays_any (n c : Nat) (A : Option Addr) (vs : List Value) (ls : List (List PP)) (x : Nat) (hx : x < 18446744073709551616) (k0 : Int) (w : World) (h : Rd w w.heap.size 1 A n vs) (hw : Nws w w.heap.size vs ls) (hc : n ≤ c ∧ c ≤ 9223372036854775807) :
    Calls Try.prog 3 #[.slice A n c, .int .u64 (x : Int), .int .i64 k0] w fun e w' => e = .returned (.bool true) ∧ Below w.heap.size w w' := by
  have FE := few_any _ _ n c A vs ls w h hw (by omega)
  have HW := Lib_hid (fun W => works7_any W)
  have HN := Lib_hid (hw.count h)
  have HA := Lib_hid (fun (W : World) (hW : Below w.heap.size w W) (k : Nat) (hk : k < n) => (hw.below hW).at (h.below hW) hk)
  clear h hw
  go_enter Try.func3, Try.ntmps3
  go_wp2_with fail
  refine FE.mono ?_
  rintro e w0 ⟨b, rfl, rfl, hb⟩
  clear FE
  cases b with
  | false =>
    clear hb
    go_wp2_with fail
    refine (HW.out _).mono ?_
    rintro e w1 ⟨rfl, hb1⟩
    go_wp2
    go_ret
    exact ⟨rfl, hb1⟩
  | true =>
    obtain ⟨hn12, hfew⟩ := hb rfl
    have HFW := Lib_hid hfew
    have T0 : Tab kU (w.alloc (.cells #[.slice none 0 0, .map none] 31)) w.heap.size none 0 none [] := Tab.new kU rfl w
    have hb0 := below_new w (.cells #[.slice none 0 0, .map none] 31)
    have HT0 := Lib_hid (And.intro T0 hb0)
    clear hb hfew T0 hb0
    obtain ⟨i0, hi, hz0, hz1, hz2⟩ := info_parts Try.infoU
    go_wp2
    go_loopw [8, 9] (fun r i wr => ∃ (j c1 : Nat) (A1 : Option Addr) (m1 : Option Nat) (Ar : Option Addr) (cr : Nat), r = .slice Ar (accL ls j).length cr ∧ i = .int .i64 j ∧ j ≤ n ∧ Hid (Tab kU wr w.heap.size A1 c1 m1 (accL ls j)) ∧ Hid (wr.ownsRow w.heap.size 50 2 (.slice Ar (accL ls j).length cr) (accL ls j).length (pc (accL ls j))) ∧ Hid (∀ k, Own w.heap.size A1 m1 k → w.heap.size ≤ k) ∧ Hid (∀ k, ob Ar = some k → ¬ Own w.heap.size A1 m1 k) ∧ Hid (Below w.heap.size w wr) ∧ Hid ((accL ls j).length ≤ 30 * j)) (fun _ i _ => n - (intOf i).toNat)
    case atStart => exact ⟨0, 0, none, none, none, 0, rfl, rfl, Nat.zero_le _, HT0.out.1, own_zero _ _ _ _, (fun k hk => by
      rcases hk with e | e | e
      · omega
      · cases e
      · cases e), (fun k hk => by cases hk), HT0.out.2, Nat.le_refl _⟩
    case round =>
      obtain ⟨j, c1, A1, m1, Ar, cr, rfl, rfl, hj, hT, hR, hO, hD, hB, hLn⟩ := hrel
      by_cases hlt : j < n
      · have hdi : decide ((j : Int) < (n : Int)) = true := decide_eq_true (by omega)
        have hdn : decide (j < n) = true := decide_eq_true hlt
        obtain ⟨ad, A2, n2, c2, rfl, hadb, k1, e, hr2, hus, hzs, hc2, hc2'⟩ := HA.out wr hB.out j hlt
        have hn2 : n2 ≤ 30 := HFW.out j A2 n2 c2 hlt e
        have HRow := Lib_hid (And.intro (rdu_count hr2) (And.intro hus hzs))
        have HSucc := Lib_hid (accL_succ (ls := ls) (i := j) (by rw [HN.out]; exact hlt))
        have HJ : Hid ((accL ls j).length ≤ 1000) := by have := hLn.out; unfold Hid; omega
        have HC1 := Lib_hid (fun (W : World) (hW : Below wr.heap.size wr W) => And.intro ((hW.cell (p := ad.add j) (by rw [add_block]; have := hB.out.size; omega)).trans k1) (hr2.below (hW.mono hB.out.size)))
        have hlj := HJ.out
        generalize hg : ls.getD j [] = row at *
        have HG := Lib_hid hg
        clear hg
        generalize hacc : accL ls j = acc at *
        have HAcc := Lib_hid hacc
        have F1 := tcopy_any hT.out (by omega)
        have hsz0 := hB.out.size
        clear hacc e hr2 hus hzs hlj
        go_wp2_with fail
        refine F1.mono ?_
        rintro e w1 ⟨p1, Ac, cc, mc, rfl, hTc, hOc, hb1⟩
        have k1a := (HC1.out w1 hb1).1
        have hr21 := (HC1.out w1 hb1).2
        have HTc := Lib_hid (And.intro hTc (And.intro hOc hb1))
        have hon := own_zero w1 w1.heap.size 23 1
        have hm1 : 0 + n2 ≤ maxLen := by unfold maxLen; omega
        have hm2 : (0 + n2) * 8 ≤ 140737488355328 := by omega
        clear F1 hTc hOc hb1 k1
        go_upto_region 11 with (at_builtin; (refine wpList_app rfl _ _ 26 rfl w1.heap.size 23 i0 (.int .u64 0) 1 8 Try.underlying26 hi hz0 hz1 hz2 rfl (by decide) (.slice none 0 0) 0 [] rfl hon w.heap.size A2 n2 c2 (uc row) rfl hr21 (uc_one _) hm1 hm2 (Nat.le_refl _) ?_); intro v' w2 hown hst; simp only [Nat.zero_add, List.nil_append] at hown; obtain ⟨Ao, co, rfl, _⟩ := own_form hown)
        have hb2 := hst.below (Nat.le_refl _) (own_ge hon)
        have hbw2 := HTc.out.2.2.trans (hb2.mono HTc.out.2.2.size)
        have k1b := (HC1.out w2 hbw2).1
        have F3 := rnames_any w.heap.size n2 c2 A2 row w2 (HC1.out w2 hbw2).2 HRow.out.2.2 (by have := hbw2.size; omega) (by omega)
        have HO2 := Lib_hid (And.intro hown (And.intro hb2 hbw2))
        have hco := own_cap hown
        clear hst hon hr21 hb2 hbw2 hown k1a
        go_wp2_with fail
        refine F3.mono ?_
        rintro e w3 ⟨A3, c3, rfl, ho3, hb3⟩
        have hbw3 := HO2.out.2.2.trans (hb3.mono HO2.out.2.2.size)
        have hR3 := own_below hR.out hbw3 (own_lt hR.out)
        have F4 := radd_any _ _ acc.length n2 cr c3 Ar A3 acc row w3 (Rd.own hR3) (Rd.own ho3) (Nat.le_refl _) (Nat.le_refl _) (by have := HJ.out; omega)
        have HB3 := Lib_hid (And.intro hbw3 hb3)
        clear F3 ho3 hb3 hR3 hbw3 k1b
        go_wp2_with fail
        refine F4.mono ?_
        rintro e w4 ⟨A4, c4, rfl, ho4, hb4⟩
        have hbw4 := HB3.out.1.trans (hb4.mono HB3.out.1.size)
        have hT4 := hT.out.below hbw4 hT.out.lt
        have hown4 := own_below HO2.out.1 (HB3.out.2.trans (hb4.mono HB3.out.2.size)) (own_lt HO2.out.1)
        have F5 := tadd_any (c' := co) hT4 (Rs.of_own hown4 (fun k hk hok => by
          have q1 := hT.out.lt k hok
          have q2 := own_ge HO2.out.1 k (by rw [ob_eq]; exact hk)
          have q3 := HTc.out.2.2.size
          omega)) (Us.nm HRow.out.2.1 HRow.out.2.2) (by have := HJ.out; omega)
        have HB4 := Lib_hid (And.intro hbw4 (And.intro ho4 (And.intro hb4 hown4)))
        have hneq : ∀ z : Int, (z != z) = false := fun z => by simp
        have hd0 := hneq (lastP acc row)
        clear F4 ho4 hb4 hbw4 hT4 hown4 hneq
        go_wp2_with fail
        refine F5.mono ?_
        rintro e w5 ⟨rfl, A5, c5, m5, hT5, hw5, hO5⟩
        -- what lies in w5
        have hz1' := HTc.out.2.2.size
        have hz2' := HO2.out.2.1.size
        have hz3' := HB3.out.2.size
        have hz4' := HB4.out.2.2.1.size
        have hz5' := hw5.size
        have hb45 : Below w.heap.size w4 w5 := hw5.below (by omega) (fun k hk => hO.out k hk)
        have hB5 : Below w.heap.size w w5 := hB.out.trans ((HB4.out.1.mono hsz0).trans hb45)
        have hTc4 : Tab kU w4 p1 Ac cc mc acc := HTc.out.1.below (HO2.out.2.1.trans ((HB3.out.2.mono hz2').trans (HB4.out.2.2.1.mono (by omega)))) HTc.out.1.lt
        have hTc5 : Tab kU w5 p1 Ac cc mc acc := hTc4.turns hw5 (fun k hk hok => by have := HTc.out.2.1 k hk; have := hT.out.lt k hok; omega)
        have hR4 := own_below hR.out HB4.out.1 (own_lt hR.out)
        have hR5 := own_keep hR4 (fun k hk => hw5.block k (own_lt hR4 k hk) (hD.out k (by rw [ob_eq] at hk; exact hk)))
        have hS5 := own_keep HB4.out.2.1 (fun k hk => hw5.block k (own_lt HB4.out.2.1 k hk) (fun hok => by have := own_ge HB4.out.2.1 k hk; have := hT.out.lt k hok; omega))
        have hown5 := own_keep HB4.out.2.2.2 (fun k hk => hw5.block k (own_lt HB4.out.2.2.2 k hk) (fun hok => by have := own_ge HB4.out.2.2.2 k hk; have := hT.out.lt k hok; omega))
        have hob : ∀ k, ob Ao = some k → w1.heap.size ≤ k ∧ k < w2.heap.size := fun k hk => ⟨own_ge HO2.out.1 k (by rw [ob_eq]; exact hk), own_lt HO2.out.1 k (by rw [ob_eq]; exact hk)⟩
        have hO5' : ∀ k, Own w.heap.size A5 m5 k → w.heap.size ≤ k := fun k hk => by
          rcases hO5 k hk with h1 | h1
          · exact hO.out k h1
          · omega
        have hD5 : ∀ k, ob A4 = some k → ¬ Own w.heap.size A5 m5 k := fun k hk hok => by
          have q1 := own_ge HB4.out.2.1 k (by rw [ob_eq]; exact hk)
          have q2 := own_lt HB4.out.2.1 k (by rw [ob_eq]; exact hk)
          rcases hO5 k hok with h1 | h1
          · have := hT.out.lt k h1; omega
          · omega
        have H6 : Hid (∀ W, Turns (fun k => ob Ao = some k) w5 W → Tab kU W w.heap.size A5 c5 m5 (addL acc row) ∧ Tab kU W p1 Ac cc mc acc ∧ W.ownsRow w.heap.size 50 2 (.slice Ar acc.length cr) acc.length (pc acc) ∧ W.ownsRow w.heap.size 50 2 (.slice A4 (addL acc row).length c4) (addL acc row).length (pc (addL acc row)) ∧ Below w.heap.size w W) := fun W hW => by
          refine ⟨hT5.turns hW fun k hk hok => ?_, hTc5.turns hW fun k hk hok => ?_, own_keep hR5 fun k hk => hW.block k (own_lt hR5 k hk) fun hok => ?_, own_base (own_keep hS5 fun k hk => hW.block k (own_lt hS5 k hk) fun hok => ?_) fun k hk => ?_, hB5.trans (hW.below (by have := hB5.size; omega) fun k hk => ?_)⟩
          · have := hob k hok
            rcases hO5 k hk with h1 | h1
            · have := hT.out.lt k h1; omega
            · omega
          · have := hob k hok
            have := HTc.out.1.lt k hk
            omega
          · have := hob k hok
            have := own_lt hR.out k hk
            omega
          · have := hob k hok
            have := own_ge hS5 k hk
            omega
          · have := own_ge hS5 k hk
            omega
          · have := hob k hk
            omega
        have HX5 := Lib_hid (And.intro hO5' hD5)
        have HO5 := Lib_hid hown5
        clear hz1' hz2' hz3' hz4' hz5' hb45 hB5 hTc4 hTc5 hR4 hR5 hS5 hown5 hob hO5' hD5 hT5 hw5 hO5 F5 hT hR hO hD hB HTc HO2 HB3 HB4 HC1 HT0 hsz0 HA
        go_wp2
        go_loopw [15] (fun i W => ∃ (k : Nat) (xs : List Value), i = .int .i64 k ∧ k ≤ n2 ∧ Hid (Turns (fun k => ob Ao = some k) w5 W) ∧ W.ownsRow w1.heap.size 23 1 (.slice Ao n2 co) n2 xs) (fun i _ => n2 - (intOf i).toNat)
        case atStart => exact ⟨0, _, rfl, Nat.zero_le _, Turns.refl _ _, HO5.out⟩
        case round =>
          obtain ⟨k, xs, rfl, hk, hw, ho⟩ := hrel
          by_cases hkl : k < n2
          · obtain ⟨g, cap, hv, hgw, hgl⟩ := ho.form (by omega)
            have hA : Ao = some ⟨g, 0, none⟩ := by injection hv
            subst hA
            have ⟨hs1, hs2⟩ := ho.stored k (.int .u64 77)
            have hfr := ho.frozenAt k
            have hlen := ho.1
            have hcl := (ho.cellAt k (by omega)).trans (List.getElem?_eq_getElem (show k < xs.length by omega))
            generalize xs[k]'(by omega) = old at *
            have hki : (k : Int) < (n2 : Int) := by omega
            have hw' := Lib_hid (hw.out.trans (Turns.grown (S := fun k => ob (some ⟨g, 0, none⟩) = some k) hs2 (fun k e => .inl e)) (fun k e => .inl e))
            clear ho hs2 hw hv hlen
            go_wp2
            go_roundw
            case rel => exact ⟨k + 1, _, by go_num, by omega, hw', hs1⟩
            case measure => simp [intOf]; omega
          · obtain rfl : k = n2 := by omega
            have H6' := H6.out _ hw.out
            have hL' : Hid ((addL acc row).length ≤ 30 * (j + 1)) := by have := addL_len acc row; have := HRow.out.1; have := hLn.out; unfold Hid; omega
            have hzA : Hid (Zs acc ∧ Zs (addL acc row)) := ⟨fun q hq => (H6'.2.1.al q hq).2, fun q hq => (H6'.1.al q hq).2⟩
            have hsz6 := H6'.2.2.2.2.size
            rename World => w6
            have Ht := Lib_hid (fun (V : World) (hV : Below w6.heap.size w6 V) => H6'.1.below hV H6'.1.lt)
            have Hc := Lib_hid (fun (V : World) (hV : Below w6.heap.size w6 V) => H6'.2.1.below hV H6'.2.1.lt)
            have Hr := Lib_hid (fun (V : World) (hV : Below w6.heap.size w6 V) => own_below H6'.2.2.1 hV (own_lt H6'.2.2.1))
            have Hs := Lib_hid (fun (V : World) (hV : Below w6.heap.size w6 V) => own_below H6'.2.2.2.1 hV (own_lt H6'.2.2.2.1))
            have Hb := Lib_hid (fun (V : World) (hV : Below w6.heap.size w6 V) => H6'.2.2.2.2.trans (hV.mono hsz6))
            have HLn := Lib_hid (show (addL acc row).length ≤ 1000000000 by have := hL'.out; omega)
            clear H6 ho hw hkl hk HO5 H6'
            generalize hacc' : addL acc row = acc' at *
            have HAcc' := Lib_hid hacc'
            clear hacc'
            go_wp2
            go_loopw [16] (fun i W => ∃ m : Nat, i = .int .i64 m ∧ m ≤ 2 ∧ Hid (Below w6.heap.size w6 W)) (fun i _ => 2 - (intOf i).toNat)
            case atStart => exact ⟨0, rfl, by omega, Below.refl _ _⟩
            case round =>
              obtain ⟨m, rfl, hm, hbm⟩ := hrel
              rename World => w7
              by_cases hml : m < 2
              · have hmi : decide ((m : Int) < 2) = true := decide_eq_true (by omega)
                have F1 := tnames_any (Ht.out _ hbm.out) HLn.out
                go_wp2_with fail
                refine F1.mono ?_
                rintro e w8 ⟨An, cn, rfl, hon8, hb8⟩
                have hbw8 := hbm.out.trans (hb8.mono hbm.out.size)
                have F2 := trising_any (Ht.out _ hbw8) hzA.out.2 HLn.out
                have HN8 := Lib_hid (And.intro hon8 (And.intro hb8 hbw8))
                clear F1 hon8 hb8 hbw8
                go_wp2_with fail
                refine F2.mono ?_
                rintro e w9 ⟨Ao9, co9, s9, hs9, rfl, hoo9, hb9⟩
                have hbw9 := HN8.out.2.2.trans (hb9.mono HN8.out.2.2.size)
                have hon9 := own_below HN8.out.1 hb9 (own_lt HN8.out.1)
                have hS9 := Hs.out _ hbw9
                have F3 := same_any _ _ An A4 acc'.length acc'.length cn c4 acc' w9 (Rd.own hon9) (Rd.own hS9) hzA.out.2 (by have := HLn.out; omega)
                have HF4 := Lib_hid (fun (V : World) (hV : Below w6.heap.size w6 V) => rrising_any V.heap.size acc'.length c4 A4 acc' V (Rd.own (Hs.out V hV)) (Ht.out V hV).nd (Nat.le_refl _) HLn.out)
                have HO9 := Lib_hid (And.intro hon9 (And.intro hoo9 (And.intro hb9 (And.intro hbw9 hs9))))
                have hneq : ∀ z : Int, (z != z) = false := fun z => by simp
                have hd1 := hneq (acc'.length : Int)
                have hd2 := hneq (acc.length : Int)
                clear F2 hon9 hoo9 hb9 hbw9 hS9 hs9 hneq
                go_wp2_with fail
                refine F3.mono ?_
                rintro e w9' ⟨rfl, q9, hq9⟩
                have hb99 : Hid (Below w9.heap.size w9 w9') := by rw [hq9]; exact below_drew_ (Below.refl _ _)
                have hbw9' := HO9.out.2.2.2.1.trans (hb99.out.mono HO9.out.2.2.2.1.size)
                have F4 := HF4.out _ hbw9'
                have HB9 := Lib_hid hbw9'
                clear F3 hq9 hbw9' HF4
                go_wp2_with fail
                refine F4.mono ?_
                rintro e w10 ⟨A10, c10, s10, hs10, rfl, ho10, hb10⟩
                have hbw10 := HB9.out.trans (hb10.mono HB9.out.size)
                have hb910 := hb99.out.trans (hb10.mono hb99.out.size)
                have hoo10 := own_below HO9.out.2.1 hb910 (own_lt HO9.out.2.1)
                have hse := rising_eq HO9.out.2.2.2.2 hs10
                rw [← hse] at ho10
                have F5 := sameI_any _ _ Ao9 A10 acc'.length acc'.length co9 c10 s9 w10 (Rd.own hoo10) (Rd.own ho10) (by have := HLn.out; omega)
                have HB10 := Lib_hid (And.intro hbw10 hb910)
                clear F4 hs10 hse ho10 hb10 hbw10 hb910 hoo10
                go_wp2_with fail
                refine F5.mono ?_
                rintro e w11 ⟨rfl, q11, hq11⟩
                have hb11 : Hid (Below w10.heap.size w10 w11) := by rw [hq11]; exact below_drew_ (Below.refl _ _)
                have hbw11 := HB10.out.1.trans (hb11.out.mono HB10.out.1.size)
                have hb911 := HB10.out.2.trans (hb11.out.mono HB10.out.2.size)
                have F6 := tlen_any (Ht.out _ hbw11)
                have F7 := tnames_any (Hc.out _ hbw11) (by have := HJ.out; omega)
                have HB11 := Lib_hid (And.intro hbw11 hb911)
                clear F5 hq11 hbw11 hb911 hb11
                go_wp2_with fail
                refine F6.mono ?_
                rintro e w11' ⟨rfl, rfl⟩
                clear F6
                go_wp2_with fail
                refine F7.mono ?_
                rintro e w12 ⟨A12, c12, rfl, ho12, hb12⟩
                have hbw12 := HB11.out.1.trans (hb12.mono HB11.out.1.size)
                have hb912 := HB11.out.2.trans (hb12.mono HB11.out.2.size)
                have hR12 := Hr.out _ hbw12
                have F8 := same_any _ _ A12 Ar acc.length acc.length c12 cr acc w12 (Rd.own ho12) (Rd.own hR12) hzA.out.1 (by have := HJ.out; omega)
                have HB12 := Lib_hid (And.intro hbw12 hb912)
                clear F7 ho12 hb12 hbw12 hb912 hR12
                go_wp2_with fail
                refine F8.mono ?_
                rintro e w13 ⟨rfl, q13, hq13⟩
                have hb13 : Hid (Below w12.heap.size w12 w13) := by rw [hq13]; exact below_drew_ (Below.refl _ _)
                have hbw13 := HB12.out.1.trans (hb13.out.mono HB12.out.1.size)
                have hb913 := HB12.out.2.trans (hb13.out.mono HB12.out.2.size)
                have F9 := tlen_any (Hc.out _ hbw13)
                have HNo := Lib_hid (And.intro (own_below HO9.out.1 hb913 (own_lt HO9.out.1)) (own_below HO9.out.2.1 hb913 (own_lt HO9.out.2.1)))
                have HNb : Hid (∀ k, ob An = some k → w7.heap.size ≤ k ∧ k < w8.heap.size) := fun k hk => ⟨own_ge HN8.out.1 k (by rw [ob_eq]; exact hk), own_lt HN8.out.1 k (by rw [ob_eq]; exact hk)⟩
                have HB13 := Lib_hid hbw13
                have hz67 := hbm.out.size
                have hz78 := HN8.out.2.1.size
                clear F8 hq13 hbw13 hb913 hb13 HB12 HB11 HB10 HB9 hb99 HO9 HN8
                go_wp2_with fail
                refine F9.mono ?_
                rintro e w13' ⟨rfl, rfl⟩
                clear F9
                have hcpn := own_cap HNo.out.1
                have hcpo := own_cap HNo.out.2
                go_wp2
                go_loopw [19] (fun i W => ∃ (k : Nat) (xs ys : List Value), i = .int .i64 k ∧ k ≤ acc'.length ∧ Hid (Below w6.heap.size w6 W) ∧ W.ownsRow w7.heap.size 23 1 (.slice An acc'.length cn) acc'.length xs ∧ W.ownsRow w8.heap.size 3 1 (.slice Ao9 acc'.length co9) acc'.length ys) (fun i _ => acc'.length - (intOf i).toNat)
                case atStart => exact ⟨0, _, _, rfl, Nat.zero_le _, HB13, HNo.out.1, HNo.out.2⟩
                case round =>
                  obtain ⟨k, xs, ys, rfl, hk, hbk, hxs, hys⟩ := hrel
                  rename World => w14
                  by_cases hkl : k < acc'.length
                  · obtain ⟨g, cap, hv, hgw, hgl⟩ := hxs.form (by omega)
                    have hA : An = some ⟨g, 0, none⟩ := by injection hv
                    obtain ⟨g2, cap2, hv2, hgw2, hgl2⟩ := hys.form (by omega)
                    have hA2 : Ao9 = some ⟨g2, 0, none⟩ := by injection hv2
                    have hgb := HNb.out g (by rw [hA]; rfl)
                    subst hA
                    subst hA2
                    have hne : g2 ≠ g := by have := own_ge hys g2 rfl; omega
                    have ⟨hs1, hs2⟩ := hxs.stored k (.int .u64 77)
                    have hys1 := own_keep hys (fun b hb => heap_setCell_other w14 ⟨g, k, none⟩ b (.int .u64 77) (fun e => hne (by injection hb with hb; exact hb.trans e)))
                    have ⟨hs3, hs4⟩ := hys1.stored k (.int .i64 77)
                    have hs5 := own_keep hs1 (fun b hb => heap_setCell_other (w14.setCell ⟨g, k, none⟩ (.int .u64 77)) ⟨g2, k, none⟩ b (.int .i64 77) (fun e => hne (by injection hb with hb; exact (hb.trans e).symm)))
                    have hfr := hxs.frozenAt k
                    have hcl := (hxs.cellAt k (by omega)).trans (List.getElem?_eq_getElem (show k < xs.length by have := hxs.1; omega))
                    have hfr2 := hys1.frozenAt k
                    have hcl2 := (hys1.cellAt k (by omega)).trans (List.getElem?_eq_getElem (show k < ys.length by have := hys.1; omega))
                    generalize xs[k]'(by have := hxs.1; omega) = old at *
                    generalize ys[k]'(by have := hys.1; omega) = old2 at *
                    have hki : (k : Int) < (acc'.length : Int) := by omega
                    have hb15 : Hid (Below w6.heap.size w6 ((w14.setCell ⟨g, k, none⟩ (.int .u64 77)).setCell ⟨g2, k, none⟩ (.int .i64 77))) := by
                      refine (hbk.out.grown hs2 hbk.out.size fun b hb => ?_).grown hs4 (by simp; exact hbk.out.size) fun b hb => ?_
                      · injection hb with hb; omega
                      · injection hb with hb; omega
                    have HXS := Lib_hid (And.intro hs5 hs3)
                    clear hs1 hs2 hs3 hs4 hs5 hys1 hxs hys hv hv2 hgb hbk hgw hgw2
                    go_wp2
                    go_roundw
                    case rel => exact ⟨k + 1, _, _, by go_num, by omega, hb15, HXS.out.1, HXS.out.2⟩
                    case measure => simp [intOf]; omega
                  · obtain rfl : k = acc'.length := by omega
                    clear hxs hys hkl hk
                    go_wp2
                    go_roundw
                    case rel => exact ⟨m + 1, by go_num, by omega, hbk⟩
                    case measure => simp [intOf]; omega
              · obtain rfl : m = 2 := by omega
                have F1 : Calls Try.prog 20 #[.pointer (some ⟨w.heap.size, 0, none⟩), .int .u64 (x : Int)] w7 fun e w' => e = .returned (.tuple #[.int .i64 (numP acc' (x, 0) : Int), .bool (hasP acc' (x, 0))]) ∧ w7 = w' := tfind_any (Ht.out _ hbm.out) (q := (x, 0)) ⟨hx, rfl⟩
                have F2 : Calls Try.prog 21 #[.slice A4 acc'.length c4, .agg #[.int .u64 (x : Int), .int .u64 0]] w7 fun e w' => e = .returned (.tuple #[.int .i64 (numP acc' (x, 0) : Int), .bool (hasP acc' (x, 0))]) ∧ Below w7.heap.size w7 w' := rfind_any _ acc'.length c4 A4 acc' (x, 0) w7 (Rd.own (Hs.out _ hbm.out)) (Nat.le_refl _) (by have := HLn.out; omega)
                have hneq : ∀ z : Int, (z != z) = false := fun z => by simp
                have hd1 := hneq (numP acc' (x, 0) : Int)
                have hd2 : (hasP acc' (x, 0) != hasP acc' (x, 0)) = false := by simp
                have hd3 := hneq ((nameP acc' k0).1.1 : Int)
                have hd4 := hneq (nameP acc' k0).2
                clear hneq
                generalize numP acc' (x, 0) = fn at *
                generalize hasP acc' (x, 0) = fb at *
                go_wp2_with fail
                refine F1.mono ?_
                rintro e w7' ⟨rfl, rfl⟩
                clear F1
                go_wp2_with fail
                refine F2.mono ?_
                rintro e w8 ⟨rfl, hb8⟩
                have hbw8 := Lib_hid (hbm.out.trans (hb8.mono hbm.out.size))
                have F3 := tname_any (Ht.out _ hbw8.out) k0
                have F4 := rname_any w8.heap.size acc'.length c4 A4 acc' k0 w8 (Rd.own (Hs.out _ hbw8.out)) (Nat.le_refl _)
                unfold pv at F4
                generalize (nameP acc' k0).1.1 = na at *
                generalize (nameP acc' k0).1.2 = nb at *
                generalize (nameP acc' k0).2 = ne at *
                clear F2 hb8
                go_wp2_with fail
                refine F3.mono ?_
                rintro e w8' ⟨rfl, rfl⟩
                clear F3
                go_wp2_with fail
                refine F4.mono ?_
                rintro e w9 ⟨rfl, hb9⟩
                have hbw9 := hbw8.out.trans (hb9.mono hbw8.out.size)
                have hbw10 := hbw9.alloc hbw9.size (.cells #[.int .u64 (na : Int), .int .u64 (nb : Int)] 50)
                have e1 : Hid (accL ls (j + 1) = acc') := by have := HSucc.out; unfold Hid; rw [this]
                have HE := Lib_hid (And.intro (Ht.out _ hbw10) (And.intro (Hs.out _ hbw10) (Hb.out _ hbw10)))
                clear F4 hb9 hbw9 hbw10
                go_wp2
                go_roundw
                case rel => exact ⟨j + 1, c5, A5, m5, A4, c4, by rw [e1.out], by go_num, by omega, by rw [e1.out]; exact HE.out.1, by rw [e1.out]; exact HE.out.2.1, HX5.out.1, HX5.out.2, HE.out.2.2, by rw [e1.out]; exact hL'.out⟩
                case measure => simp [intOf]; omega
      · obtain rfl : j = n := by omega
        clear hT hR hO hD hLn HT0 hlt hj
        by_cases h0 : 0 < j
        · obtain ⟨ad, A2, n2, c2, rfl, hadb, k1, e, hr2, hus, hzs, hc2, hc2'⟩ := HA.out wr hB.out 0 h0
          have hn2 : n2 ≤ 30 := HFW.out 0 A2 n2 c2 h0 e
          have h0n : (0 : Int) < (j : Int) := by omega
          have h0i : decide ((0 : Int) < (j : Int)) = true := decide_eq_true h0n
          have h0d : decide (0 < j) = true := decide_eq_true h0
          have HRow := Lib_hid (And.intro (rdu_count hr2) (And.intro hus hzs))
          have HC1 := Lib_hid (fun (W : World) (hW : Below wr.heap.size wr W) => And.intro ((hW.cell (p := ad.add 0) (by rw [add_block]; have := hB.out.size; omega)).trans k1) (hr2.below (hW.mono hB.out.size)))
          generalize ls.getD 0 [] = row at *
          have hsz0 := hB.out.size
          have F1 := tfrom_any (c' := c2) hr2 hB.out.size (Us.nm HRow.out.2.1 HRow.out.2.2) (by omega)
          have ka0 : ad.add 0 = ad := by simp [Addr.add]
          rw [ka0] at k1
          clear e hr2 hus hzs
          go_wp2_with fail
          refine F1.mono ?_
          rintro e w1 ⟨p1, Ac, cc, mc, rfl, hTc, hOc, hb1⟩
          have k2 := (HC1.out w1 hb1).1
          rw [ka0] at k2
          have F2 := rnames_any w.heap.size n2 c2 A2 row w1 (HC1.out w1 hb1).2 HRow.out.2.2 (by have := hb1.size; omega) (by omega)
          have HT1 := Lib_hid (And.intro hTc hb1)
          clear F1 hTc hOc hb1 k1
          go_wp2_with fail
          refine F2.mono ?_
          rintro e w2 ⟨A3, c3, rfl, ho3, hb2⟩
          have F3 := radd_any w2.heap.size _ 0 n2 0 c3 none A3 [] row w2 Rd.zero (Rd.own ho3) (Nat.le_refl _) (Nat.le_refl _) (by omega)
          have HB2 := Lib_hid hb2
          clear F2 ho3 hb2 k2 HC1
          go_wp2_with fail
          refine F3.mono ?_
          rintro e w3 ⟨A4, c4, rfl, ho4, hb3⟩
          have hb13 := HB2.out.trans (hb3.mono HB2.out.size)
          have hT3 := HT1.out.1.below hb13 HT1.out.1.lt
          have hl3 : (addL [] row).length ≤ 30 := by have h1 := addL_len [] row; have h2 := HRow.out.1; rw [List.length_nil] at h1; omega
          have F4 := tnames_any hT3 (by omega)
          have HB3 := Lib_hid (And.intro ho4 (HT1.out.2.trans (hb13.mono HT1.out.2.size)))
          have hzz : Hid (Zs (addL [] row)) := fun q hq => (hT3.al q hq).2
          generalize lastP [] row = lst at *
          clear F3 ho4 hb3 hb13 hT3
          go_wp2_with fail
          refine F4.mono ?_
          rintro e w4 ⟨A5, c5, rfl, ho5, hb4⟩
          have ho54 := own_below HB3.out.1 hb4 (own_lt HB3.out.1)
          have F5 := same_any _ _ A5 A4 _ _ c5 c4 (addL [] row) w4 (Rd.own ho5) (Rd.own ho54) hzz.out (by omega)
          have HB4 := Lib_hid (HB3.out.2.trans (hb4.mono HB3.out.2.size))
          clear F4 ho5 hb4 ho54
          go_wp2_with fail
          refine F5.mono ?_
          rintro e w5 ⟨rfl, q5, hq5⟩
          have hb5 : Hid (Below wr.heap.size wr w5) := by rw [hq5]; exact below_drew_ HB4.out
          clear F5 hq5 HB4
          go_wp2_with fail
          refine (HW.out _).mono ?_
          rintro e w6 ⟨rfl, hb6⟩
          have hbf := Lib_hid (hB.out.trans ((hb5.out.trans (hb6.mono hb5.out.size)).mono hsz0))
          clear hb6 hb5
          go_wp2
          go_ret
          exact ⟨rfl, hbf.out⟩
        · obtain rfl : j = 0 := by omega
          go_wp2_with fail
          refine (HW.out _).mono ?_
          rintro e w6 ⟨rfl, hb6⟩
          have hbf := Lib_hid (hB.out.trans (hb6.mono hB.out.size))
          clear hb6
          go_wp2
          go_ret
          exact ⟨rfl, hbf.out⟩

end Go.Proofs.Ytidlpiamiglppaa
