/-
  The statement's function FrameGets returns true, for every input.
-/
import Derived.Test.YtedglcbeheeonaaDoorFgs
namespace Go.Proofs.YtedglcbeheeonaaDoor
open Go Go.RowKit
set_option linter.unusedVariables false

/-- What both Gets answer: as the program has it, and the document. -/
structure GBoth (r : FG) (k : Nat) (p : List Nat) (nx rl : Nat) : Prop where
  eq : r = .bad rl ∧ k = 0 ∧ p = [] ∧ nx = 0 ∧ rl ≠ 0 ∨ r = .good k p nx ∧ rl = 0
  p8 : ∀ x ∈ p, x < 256
  pl : p.length ≤ 1500

theorem gboth {l : List Nat} {a : Int} (hb : ∀ x ∈ l, x < 256) (hn : l.length ≤ 1500) : ∃ k p nx rl, GBoth (frG l a) k p nx rl := by
  cases h : frG l a with
  | bad r => exact ⟨0, [], 0, r, .inl ⟨rfl, rfl, rfl, rfl, by have := frG_rule h; omega⟩, by simp, by simp⟩
  | good k p nx =>
    have ho : ¬ (a < 0 ∨ (l.length : Int) ≤ a) := fun ho => by rw [frG_out ho] at h; cases h
    obtain ⟨a, rfl⟩ : ∃ k : Nat, a = k := ⟨a.toNat, by omega⟩
    rw [frG_in (by omega)] at h
    obtain ⟨h1, h2, h3, h4, h5⟩ := frN_stands hb (by omega) h
    refine ⟨k, p, nx, 0, .inr ⟨rfl, rfl⟩, h5, ?_⟩
    rw [frS_length] at h1
    omega

theorem GBoth.prog {r : FG} {k nx rl : Nat} {p : List Nat} (h : GBoth r k p nx rl) {w : World} {e : Ending} {w' : World} (g : GetEnd r w e w') :
    ∃ A' c', e = .returned (.tuple #[.agg #[.int .u8 (k : Int), .slice A' p.length c'], .int .i64 (nx : Int), .int .i64 (rl : Int)]) ∧ w'.ownsRow w.heap.size 5 1 (.slice A' p.length c') p.length (bs p) ∧ Below w.heap.size w w' := by
  rcases h.eq with ⟨rfl, rfl, rfl, rfl, _⟩ | ⟨rfl, rfl⟩
  · exact ⟨none, 0, g.1, World.ownsRow_nil _ _ _ _, g.2⟩
  · exact g
theorem GBoth.docs {r : FG} {k nx rl : Nat} {p : List Nat} (h : GBoth r k p nx rl) {w : World} {e : Ending} {w' : World} (g : RGetEnd r w e w') :
    e = .returned (.tuple #[.agg #[.int .u8 (k : Int), .string (str p)], .int .i64 (nx : Int), .int .i64 (rl : Int)]) ∧ Below w.heap.size w w' := by
  rcases h.eq with ⟨rfl, rfl, rfl, rfl, _⟩ | ⟨rfl, rfl⟩
  · exact g
  · exact g

set_option maxRecDepth 100000 in
set_option maxHeartbeats 4000000 in
theorem fgets_any (n c : Nat) (A : Option Addr) (l : List Nat) (at_ : Int) (w : World) (hT : Tab w) (h : Rd w w.heap.size 1 A n (bs l)) (hb8 : ∀ x ∈ l, x < 256) (hbc : n ≤ c ∧ c ≤ 9223372036854775807) (hf : Free w A n) :
    Calls Tryd.prog 4 #[.slice A n c, .int .i64 at_] w fun e w' => e = .returned (.bool true) ∧ Below w.heap.size w w' := by
  have hw0 := hT.1
  have hln := h.count
  subst hln
  have HWK := Lib_hid fun W (hb : Below w.heap.size w W) => fworks_any W (hT.below hb hw0)
  by_cases hn : l.length ≤ 1500
  · obtain ⟨ds, t0, r, hs⟩ : ∃ ds t0 r, splitS l = (ds, t0, r) := ⟨_, _, _, rfl⟩
    obtain ⟨k, p, nx, rl, hgb⟩ := gboth (a := at_) hb8 hn
    have OW := own_any w.heap.size A l.length c l w h (by omega)
    have HRD := Lib_hid fun W (hb : Below w.heap.size w W) => h.below hb
    have HTB := Lib_hid fun W (hb : Below w.heap.size w W) => hT.below hb hw0
    have HGB := Lib_hid hgb
    have HS := Lib_hid hs
    have HB8 := Lib_hid hb8
    have HF := Lib_hid hf
    have HH := Lib_hid h
    have HTT := Lib_hid hT
    clear hgb hs hb8 hf h hT
    have hn' : ¬ ((1500 : Int) < (l.length : Int)) := by omega
    go_enter Tryd.func4, Tryd.ntmps4
    go_wp2_with fail
    refine OW.mono ?_
    intro e w1 hm
    rw [made_iff] at hm
    obtain ⟨A1, n1, c1, rfl, ho1, hb1⟩ := hm
    obtain rfl : n1 = l.length := by have := ho1.1; rw [bs_length] at this; omega
    have hr1 := Rd.own ho1
    have hc1 := own_cap ho1
    have hg1 := own_ge ho1
    have SP := rsplitf_any w1.heap.size A1 l.length c1 l w1 hr1 HB8.out hn hc1.1 (Nat.le_refl _)
    clear OW
    go_wp2_with fail
    refine SP.mono ?_
    rintro e w2 ⟨ds', t0', r', A2, c2, hs', hdl, rfl, ho2, hb2⟩
    have hse : (ds', t0', r') = (ds, t0, r) := hs'.symm.trans HS.out
    injection hse with h1 h2
    injection h2 with h2 h3
    subst h1 h2 h3
    clear SP hs'
    have hbw2 := hb1.trans (hb2.mono hb1.size)
    have hc2 := own_cap ho2
    have AL := all_any w.heap.size A l.length c l w2 (HRD.out _ hbw2) (by omega)
    go_wp2_with fail
    refine AL.mono ?_
    rintro e w3 ⟨A3, c3, rfl, ho3, hb3⟩
    clear AL
    have hbw3 := hbw2.trans (hb3.mono hbw2.size)
    have HR1 := Lib_hid fun W (hb : Below w3.heap.size w3 W) => (hr1.below (hb2.trans (hb3.mono hb2.size))).below (hb.mono (hb2.trans (hb3.mono hb2.size)).size)
    have HR2 := Lib_hid fun W (hb : Below w3.heap.size w3 W) => ((Rd.own ho2).below hb3).below (hb.mono hb3.size)
    have HO3 := Lib_hid ho3
    have HO2 := Lib_hid (own_below ho2 hb3 (own_lt ho2))
    have HO1 := Lib_hid (own_below (own_below ho1 hb2 (own_lt ho1)) (hb3.mono hb2.size) (fun k hk => by have := own_lt ho1 k hk; exact Nat.lt_of_lt_of_le this (Nat.le_refl _)))
    have HBW := Lib_hid hbw3
    have hsz3 := hbw3.size
    have hsz1 := hb1.size
    have hsz2 := hb2.size
    have hsz32 := hb3.size
    clear hr1 ho1 ho2 ho3 hb1 hb2 hb3 hbw2 hbw3 hg1
    go_wp2_with fail
    go_loopw [10] (fun v wr => ∃ t : Nat, v = .int .i64 t ∧ t ≤ 2 ∧ Below w3.heap.size w3 wr) (fun v _ => 2 - (intOf v).toNat)
    case atStart => exact ⟨0, rfl, by omega, Below.refl _ _⟩
    case round =>
      obtain ⟨t, rfl, ht, hbr⟩ := hrel
      by_cases hlt : t < 2
      · have hbw := HBW.out.trans (hbr.mono HBW.out.size)
        have hszr := hbr.size
        have G1 := fget_any w.heap.size A l.length c l at_ wr (HTB.out _ hbw) (HRD.out _ hbw) HB8.out hbc (by omega) (by omega)
        go_wp2_with fail
        refine G1.mono ?_
        intro e w4 hm
        obtain ⟨A4, c4, rfl, ho4, hb4⟩ := HGB.out.prog hm
        clear G1 hm
        have hbr4 := hbr.trans (hb4.mono hbr.size)
        have hge4 := own_ge ho4
        have hsz4 := hb4.size
        have hbx := below_new w4 (.cells #[.int .u8 (k : Int), .slice A4 p.length c4] 25)
        have hh := heap_alloc_new w4 (.cells #[.int .u8 (k : Int), .slice A4 p.length c4] 25)
        have hbr5 := hbr4.trans (hbx.mono hbr4.size)
        have ho5 := own_below ho4 hbx (own_lt ho4)
        have G2 := rgetf_any w1.heap.size A1 l.length c1 l at_ (w4.alloc (.cells #[.int .u8 (k : Int), .slice A4 p.length c4] 25)) (HR1.out _ hbr5) HB8.out hn hc1.1 (by simp; omega)
        clear hb4 ho4
        go_wp2_with fail
        refine G2.mono ?_
        intro e w5 hm
        obtain ⟨rfl, hb5⟩ := HGB.out.docs hm
        clear G2 hm
        have hbr6 := hbr5.trans (hb5.mono hbr5.size)
        have hh6 := (hb5.block w4.heap.size (by simp)).trans hh
        have hsz5 : w4.heap.size < w5.heap.size := by have := hb5.size; simp at this; omega
        have ho6 := own_below ho5 hb5 (own_lt ho5)
        have hbx2 := below_new w5 (.cells #[.int .u8 (k : Int), .string (str p)] 30)
        have hh7 := (heap_alloc_old w5 (.cells #[.int .u8 (k : Int), .string (str p)] 30) hsz5).trans hh6
        have hh8 := heap_alloc_new w5 (.cells #[.int .u8 (k : Int), .string (str p)] 30)
        have hbr7 := hbr6.trans (hbx2.mono hbr6.size)
        have ho7 := own_below ho6 hbx2 (own_lt ho6)
        have hsz7 : (w5.alloc (.cells #[.int .u8 (k : Int), .string (str p)] 30)).heap.size = w5.heap.size + 1 := by simp
        clear hb5 hbr6 hh6 ho6 hbx2 hh ho5 hbx hbr5 hbr4
        go_upto_region 11 with (fail)
        generalize w5.alloc (.cells #[.int .u8 (k : Int), .string (str p)] 30) = w6 at *
        have S0 : Hid (∀ W : World, Below w6.heap.size w6 W → W.cell? ⟨w4.heap.size, 0, none⟩ = some (.int .u8 (k : Int)) ∧ W.cell? ⟨w4.heap.size, 1, none⟩ = some (.slice A4 p.length c4) ∧ W.cell? ⟨w5.heap.size, 0, none⟩ = some (.int .u8 (k : Int)) ∧ W.cell? ⟨w5.heap.size, 1, none⟩ = some (.string (str p))) := fun W hW =>
          ⟨cell_of_row W _ 0 _ _ _ ((hW.block _ (by omega)).trans hh7), cell_of_row W _ 1 _ _ _ ((hW.block _ (by omega)).trans hh7), cell_of_row W _ 0 _ _ _ ((hW.block _ (by omega)).trans hh8), cell_of_row W _ 1 _ _ _ ((hW.block _ (by omega)).trans hh8)⟩
        have DF : Hid (∀ W : World, Below w6.heap.size w6 W → Calls Tryd.prog 9 #[.agg #[.int .u8 (k : Int), .slice A4 p.length c4]] W fun e w' => e = .returned (.agg #[.int .u8 (k : Int), .string (str p)]) ∧ Below W.heap.size W w') := fun W hW =>
          dframe_any w6.heap.size k A4 p.length c4 p W ((Rd.own ho7).below hW) hW.size
        have EQN := fun wx => neq_fr k k p p wx HGB.out.p8 HGB.out.p8
        rw [show sameF (k, p) (k, p) = true from sameF_eq.2 rfl] at EQN
        unfold dfv at EQN
        have ne2 : ((nx : Int) != (nx : Int)) = false := by simp
        have ne3 : ((rl : Int) != (rl : Int)) = false := by simp
        obtain ⟨d0, d1, d2, d3⟩ := S0.out w6 (Below.refl _ _)
        have HO7 := Lib_hid ho7
        have HGE := Lib_hid hge4
        clear hh7 hh8 ho7 hge4
        go_region_held3 (fun W => W.cell? ⟨w4.heap.size, 0, none⟩ = some (.int .u8 (k : Int)) ∧ W.cell? ⟨w4.heap.size, 1, none⟩ = some (.slice A4 p.length c4) ∧ W.cell? ⟨w5.heap.size, 0, none⟩ = some (.int .u8 (k : Int)) ∧ W.cell? ⟨w5.heap.size, 1, none⟩ = some (.string (str p)))
          (first | exact S0.out _ (below_like (Below.refl _ _) rfl rfl rfl rfl) | exact S0.out _ hbs)
          ((go_at_call 9; ((with_reducible refine (DF.out w6.drew (below_like (Below.refl _ _) rfl rfl rfl rfl)).mono ?_); rintro e ws ⟨rfl, hs'⟩; have hbs : Below w6.heap.size w6 ws := ⟨hs'.os, hs'.tape, hs'.output, hs'.size, hs'.block⟩)))
        all_goals
          have hbrs := hbr7.trans (hbs.mono hbr7.size)
          have hbws := HBW.out.trans (hbrs.mono HBW.out.size)
          have hszs := hbs.size
          have S3 := split_any w.heap.size A l.length c l ws (HTB.out _ hbws) (HRD.out _ hbws) HB8.out hbws.size (by omega)
          clear d0 d1 d2 d3 DF EQN ne2 ne3
          go_wp2_with fail
          refine S3.mono ?_
          rintro e w8 ⟨v, xs, t1, r1, rfl, hP, hs1, hb8'⟩
          have hse : (xs.map Ev.abs, t1, r1) = (ds', t0', r') := hs1.symm.trans HS.out
          injection hse with q1 q2
          injection q2 with q2 q3
          subst q2 q3
          obtain ⟨Av, cv, rfl, hcv⟩ := own_form hP.row
          have hxb : xs.length ≤ 1000000 := by
            have := congrArg List.length q1
            rw [List.length_map] at this
            omega
          have hbr8 := hbrs.trans (hb8'.mono hbrs.size)
          have SM := splaced_any ws.heap.size w8.heap.size Av xs.length cv A2 ds'.length c2 xs ds' w8 (Rd.own hP.row) (Nat.le_refl _) ((HR2.out _ hbr8).more (by omega)) hb8'.size hP.pay (fun x hx g hg ad e h0 => by
            obtain ⟨g', cap, hv, _, _⟩ := hP.row.form h0
            injection hv with hv
            rw [e] at hv
            injection hv with hv
            subst hv
            intro e2
            subst e2
            exact hP.apart x hx _ hg (by rw [e]; rfl)) hP.pair q1.symm hxb
          have HPO := Lib_hid fun x hx k (hk : x.sl.ownBlock = some k) => own_ge (hP.pay x hx).1 k hk
          have HX := Lib_hid q1
          have hsz8 := hb8'.size
          clear S3 hP hs1 q1
          have ne4 : ((t1 : Int) != (t1 : Int)) = false := by simp
          have ne5 : ((r1 : Int) != (r1 : Int)) = false := by simp
          go_wp2_with fail
          refine SM.mono ?_
          rintro e w9 ⟨rfl, hpb⟩
          have hb9 := hpb.below (B := ws.heap.size) hsz8 HPO.out
          have hbs9 : Below w6.heap.size w6 w9 := hbs.trans ((hb8'.mono hszs).trans (hb9.mono hszs))
          have hbr9 := hbr7.trans (hbs9.mono hbr7.size)
          obtain ⟨d0, d1, d2, d3⟩ := S0.out w9 hbs9
          have ho9 := own_below HO7.out hbs9 (own_lt HO7.out)
          have SO := spoil_any wr.heap.size p.length c4 A4 (bs p) w9 ho9 (by have := HGB.out.pl; omega)
          clear SM hpb hb9 hbs9 ne4 ne5
          go_wp2_with fail
          refine SO.mono ?_
          rintro e w10 ⟨rfl, hg⟩
          have hb10 := hbr9.grown hg hbr9.size (fun k hk => by have := HGE.out k hk; omega)
          clear SO
          go_wp2_with fail
          go_roundw
          case rel => exact ⟨t + 1, by go_num, by omega, hb10⟩
          case measure => simp [intOf]; omega
      · obtain rfl : t = 2 := by omega
        have hbw := HBW.out.trans (hbr.mono HBW.out.size)
        have hszr := hbr.size
        have SY := same_yes (c := c1) (c' := c) l wr (HR1.out _ hbr) (HRD.out _ hbw) (by omega)
        have HBR := Lib_hid hbr
        clear hbr hbw
        go_wp2_with fail
        refine SY.mono ?_
        rintro e wq ⟨rfl, q, hq⟩
        have hbrq : Below w3.heap.size w3 wq := by rw [hq]; exact below_like HBR.out rfl rfl rfl rfl
        have hbwq := HBW.out.trans (hbrq.mono HBW.out.size)
        have hszq := hbrq.size
        have hrq := HRD.out _ hbwq
        have hAw : ∀ ad, 0 < l.length → A = some ad → ad.block < w.heap.size := fun ad h0 e => by
          obtain ⟨ad', e', hb, _⟩ := HH.out.lies h0
          rw [e] at e'; injection e' with e'; rw [e']; exact hb
        have hfq : Free wq A l.length := fun ad e i hi => (hbwq.frozen (p := ⟨ad.block, ad.off + i, none⟩) (hAw ad (by omega) e)).trans (HF.out ad e i hi)
        have SB := spoilb_any w.heap.size l.length c A l wq wq hrq (But.refl hrq) hfq (by omega)
        have HRQ := Lib_hid hrq
        have HFQ := Lib_hid hfq
        have HTQ := Lib_hid (HTB.out _ hbwq)
        have HBRQ := Lib_hid hbrq
        have HBWQ := Lib_hid hbwq
        have HAW := Lib_hid hAw
        clear SY hq hrq hfq hbrq hbwq hAw HBR
        go_wp2_with fail
        refine SB.mono ?_
        rintro e w11 ⟨rfl, hbt⟩
        have hsz11 := hbt.size
        have HK : Hid (∀ k, w.heap.size ≤ k → k < w3.heap.size → w11.heap[k]? = w3.heap[k]?) := fun k h1 h2 => (hbt.other k (by omega) (fun h0 ad e e2 => by have := HAW.out ad h0 e; omega)).trans (HBRQ.out.block k h2)
        have HBT := Lib_hid hbt
        have o1 := own_keep HO1.out (fun k hk => HK.out k (by have := own_ge HO1.out k hk; omega) (own_lt HO1.out k hk))
        have o2 := own_keep HO2.out (fun k hk => HK.out k (by have := own_ge HO2.out k hk; omega) (own_lt HO2.out k hk))
        have o3 := own_keep HO3.out (fun k hk => HK.out k (by have := own_ge HO3.out k hk; omega) (own_lt HO3.out k hk))
        have hA3 : ∀ ad, A3 = some ad → ad.block < w11.heap.size := by
          intro ad e
          obtain ⟨g, hg⟩ : ∃ g, (Value.slice A3 l.length c3).ownBlock = some g := by
            rcases o3.2 with ⟨h, _⟩ | ⟨g, cap, cur, h, _⟩
            · rw [e] at h; cases h
            · rw [h]; exact ⟨g, rfl⟩
          have h1 := own_lt o3 g hg
          rw [e] at hg
          simp [Value.ownBlock] at hg
          omega
        have hc3 := own_cap o3
        have hT11 := hbt.tab HRQ.out HTQ.out
        have T1 := told_any w11.heap.size A3 c3 l A2 c2 ds' t0' r' ((ds'.length : Int) + 1) w11 hT11 (Rd.own o3) hA3 HB8.out hc3 (by omega) (Rd.own o2) (Nat.le_refl _) hc2 HS.out
        have HO1' := Lib_hid o1
        have HO2' := Lib_hid o2
        have HO3' := Lib_hid o3
        have HA3 := Lib_hid hA3
        have HT11 := Lib_hid hT11
        clear SB hbt o1 o2 o3 hA3 hT11
        go_wp2_with fail
        refine T1.mono ?_
        rintro e w12 ⟨rfl, hb12⟩
        have hsz12 := hb12.size
        have T2 := told_any w12.heap.size A3 c3 l A2 c2 ds' t0' r' 1 w12 (HT11.out.below hb12 HT11.out.1) (Rd.own (own_below HO3'.out hb12 (own_lt HO3'.out))) (fun ad e => Nat.lt_of_lt_of_le (HA3.out ad e) hb12.size) HB8.out hc3 (by omega) (Rd.own (own_below HO2'.out hb12 (own_lt HO2'.out))) (Nat.le_refl _) hc2 HS.out
        have HB12 := Lib_hid hb12
        clear T1 hb12
        go_wp2_with fail
        refine T2.mono ?_
        rintro e w13 ⟨rfl, hb13⟩
        have hb13' := HB12.out.trans (hb13.mono HB12.out.size)
        have hbt13 := HBT.out.below hb13' (fun ad h0 e => by have := HAW.out ad h0 e; omega)
        obtain ⟨w14, hcp, hb14⟩ := copyb (c := c) (c' := c1) HRQ.out hbt13 HFQ.out (Rd.own (own_below HO1'.out hb13' (own_lt HO1'.out)))
        have HB14 := Lib_hid (HBWQ.out.trans (hb14.mono HBWQ.out.size))
        have HCP := Lib_hid hcp
        clear T2 hb13 hb13' hbt13 hb14 hcp
        go_wp2_with (with_reducible refine Go.Lib.wpList_copy_run w13 rfl (.tmp 111) (.tmp 112) 23 23 rfl (.slice A l.length c) (.slice A1 l.length c1) rfl rfl (HCP.out _) ?_)
        refine (HWK.out _ HB14.out).mono ?_
        rintro e w15 ⟨rfl, hb15⟩
        have hbf := HB14.out.trans (hb15.mono HB14.out.size)
        go_wp2_with fail
        go_ret
        exact ⟨rfl, hbf⟩
  · have hn' : (1500 : Int) < (l.length : Int) := by omega
    go_enter Tryd.func4, Tryd.ntmps4
    go_wp2_with fail
    refine (HWK.out _ (Below.refl _ _)).mono ?_
    rintro e w1 ⟨rfl, hb1⟩
    go_wp2_with fail
    go_ret
    exact ⟨rfl, hb1⟩

end Go.Proofs.YtedglcbeheeonaaDoor
