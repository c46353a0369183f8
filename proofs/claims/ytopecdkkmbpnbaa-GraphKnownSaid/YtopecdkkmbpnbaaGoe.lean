/-
  Layer 13: the program's Between.
-/
import Derived.Test.YtopecdkkmbpnbaaGod
namespace Go.Proofs.Ytopecdkkmbpnbaa
open Go Go.RowKit Go.Maps
set_option linter.unusedVariables false

theorem betE_snoc {l : List Ed} {k : Nat} (hk : k < l.length) (n m : Int) : betE (l.take (k + 1)) n m = betE (l.take k) n m ++ if (at3 l k).1 = n ∧ (at3 l k).2.1 = m then [at3 l k] else [] := by
  rw [take_snoc3 hk]
  unfold betE
  rw [List.filter_append]
  by_cases h : (at3 l k).1 = n ∧ (at3 l k).2.1 = m
  · rw [if_pos h]; simp [h]
  · rw [if_neg h]
    have : decide ((at3 l k).1 = n ∧ (at3 l k).2.1 = m) = false := decide_eq_false h
    simp only [List.filter_cons, List.filter_nil, this]
    rfl
theorem betE_sort {L G : List Ed} {n m : Int} (h : Srt L) (hG : G.Nodup) (he : ∀ e : Ed, e.1 = n → e.2.1 = m → (e ∈ G ↔ e ∈ L)) : srtE (betE G n m) = betE L n m := by
  refine srtE_eq (hG.filter _) (h.filter _) fun e => ?_
  unfold betE
  rw [List.mem_filter, List.mem_filter, decide_eq_true_eq]
  constructor
  · rintro ⟨h1, h2, h3⟩; exact ⟨(he e h2 h3).1 h1, h2, h3⟩
  · rintro ⟨h1, h2, h3⟩; exact ⟨(he e h2 h3).2 h1, h2, h3⟩
theorem betE_none {L : List Ed} {N : Nat} {n m : Int} (h : EdsIn N L) (hn : isN N n = false ∨ isN N m = false) : betE L n m = [] := by
  unfold betE
  rw [List.filter_eq_nil_iff]
  intro e he hc
  rw [decide_eq_true_eq] at hc
  obtain ⟨_, h1, h2, h3, h4⟩ := h e he
  have k1 : isN N n = true := isN_iff.2 ⟨by omega, by omega⟩
  have k2 : isN N m = true := isN_iff.2 ⟨by omega, by omega⟩
  rcases hn with hn | hn
  · rw [k1] at hn; cases hn
  · rw [k2] at hn; cases hn

set_option maxRecDepth 100000 in
set_option maxHeartbeats 3200000 in
theorem pbetween_any {w : World} {p N : Nat} {S : Nat → Prop} {L : List Ed} (h : GmIs w p S N L) (hN : N ≤ 65536) (hL : L.length ≤ 1000000) (n m : Int) :
    Calls Try.prog 36 #[.pointer (some ⟨p, 0, none⟩), .int .i64 n, .int .i64 m] w (MadeC 39 3 (betE L n m).length (ec (betE L n m)) w) := by
  have NO := Lib_hid (pnode_any h n)
  have NP := Lib_hid (pnode_any h m)
  have HE := Lib_hid h.eds
  have HSR := Lib_hid h.srt
  obtain ⟨m0, go, gi, So, Si, R, I, f, tg, hX, hS⟩ := h
  have c2 := hX.c2
  have c3 := hX.c3
  obtain ⟨i0, hi, hz0, hz1, hz2⟩ := info_parts Try.infoE
  by_cases hn : isN N n = true
  · by_cases hm : isN N m = true
    · rw [hn] at NO
      rw [hm] at NP
      obtain ⟨i, hni, hiN⟩ := isN_nat hn
      obtain ⟨j, hmj, hjN⟩ := isN_nat hm
      have HRo : Hid (∀ V : World, Below w.heap.size w V → Rd V w.heap.size 3 (So i).1 (R i).length (ec (R i))) := fun V hV => (Rd.own (hX.out.row i hiN)).below hV
      have HRi : Hid (∀ V : World, Below w.heap.size w V → Rd V w.heap.size 3 (Si j).1 (I j).length (ec (I j))) := fun V hV => (Rd.own (hX.inn.row j hjN)).below hV
      have k2 := hX.out.cell hiN
      have k3 := hX.inn.cell hjN
      unfold sv at k2 k3
      have HSo : Hid (srtE (betE (R i) n m) = betE L n m) := betE_sort HSR.out (hX.pl.out.nd i hiN) fun e h1 h2 => by
        rw [hX.pl.out.iff hiN]; exact ⟨fun hh => hh.1, fun hh => ⟨hh, by rw [← hni]; exact h1⟩⟩
      have HSi : Hid (srtE (betE (I j) n m) = betE L n m) := betE_sort HSR.out (hX.pl.inn.nd j hjN) fun e h1 h2 => by
        rw [hX.pl.inn.iff hjN]; exact ⟨fun hh => hh.1, fun hh => ⟨hh, by rw [← hmj]; exact h2⟩⟩
      have HQo : Hid ((R i).length ≤ 1000000) := Nat.le_trans (hX.pl.out_len hiN) hL
      have HQi : Hid ((I j).length ≤ 1000000) := Nat.le_trans (hX.pl.in_len hjN) hL
      have hiI : (i : Int) < (N : Int) := by omega
      have hi0 : (0 : Int) ≤ (i : Int) := by omega
      have hjI : (j : Int) < (N : Int) := by omega
      have hj0 : (0 : Int) ≤ (j : Int) := by omega
      clear hX hS hn hm HE hL
      subst hni hmj
      go_enter Try.func36, Try.ntmps36
      go_wp2_with fail
      refine NO.out.mono ?_
      rintro e w1 ⟨rfl, rfl⟩
      go_wp2_with fail
      refine NP.out.mono ?_
      rintro e w1 ⟨rfl, rfl⟩
      by_cases hs : (I j).length < (R i).length
      · have d1 : decide (((I j).length : Int) < ((R i).length : Int)) = true := decide_eq_true (by omega)
        go_upto_region 8 with (fail)
        clear d1 hs k2 k3 c2 c3 HRo HSo HQo
        have HRG := Lib_hid HRi.out
        have HSRT := Lib_hid HSi.out
        have HQL := Lib_hid HQi.out
        clear HRi HSi HQi
        generalize hSj : Si j = sj at *
        generalize hIj : I j = G at *
        obtain ⟨Aj, cj⟩ := sj
        clear hSj hIj
        generalize hni : ((i : Nat) : Int) = n at *
        generalize hmj : ((j : Nat) : Int) = m at *
        generalize hq : G.length = q at *
        have HQ := Lib_hid hq
        clear hq
        have HIG := Lib_hid (fun (V : World) (hV : Below w.heap.size w V) (k : Nat) (hk : k < q) => e_at (HRG.out V hV) hk)
        go_wp2
        go_loopw [9, 11, 46] (fun o z i wr => ∃ (k m' c' : Nat) (A' : Option Addr), o = .slice A' m' c' ∧ i = .int .i64 k ∧ k ≤ q ∧ Hid (m' = (betE (G.take k) n m).length) ∧ Hid (wr.ownsRow w.heap.size 39 3 (.slice A' m' c') m' (ec (betE (G.take k) n m)) ∧ Below w.heap.size w wr)) (fun _ _ i _ => q - (intOf i).toNat)
        case atStart => exact ⟨0, 0, 0, none, rfl, rfl, Nat.zero_le _, rfl, own_zero _ _ _ _, Below.refl _ _⟩
        case round =>
          obtain ⟨k, m', c', A', rfl, rfl, hk, hm, hs⟩ := hrel
          by_cases hlt : k < q
          · have hsn : betE (G.take (k + 1)) n m = betE (G.take k) n m ++ if (at3 G k).1 = n ∧ (at3 G k).2.1 = m then [at3 G k] else [] := betE_snoc (by rw [HQ.out]; exact hlt) n m
            obtain ⟨bk, off, hA, _, e0, e1, e2⟩ := HIG.out _ hs.out.2 k hlt
            have hmn : m' ≤ 1000000 := by
              have h1 := hm.out
              have h2 : (betE (G.take k) n m).length ≤ (G.take k).length := List.length_filter_le _ _
              rw [List.length_take, HQ.out] at h2
              have h3 := HQL.out
              omega
            have hq6 : q ≤ 1000000 := by exact HQL.out
            have hki : (k : Int) < (q : Int) := by omega
            have hk0 : (0 : Int) ≤ (k : Int) := by omega
            have hAA := Lib_hid hA
            rw [show at3 G k = ((at3 G k).1, (at3 G k).2.1, (at3 G k).2.2) from rfl] at hsn
            obtain ⟨W1, rfl⟩ : ∃ W1, W1 = wr := ⟨wr, rfl⟩
            generalize (at3 G k).1 = a1 at *
            generalize (at3 G k).2.1 = a2 at *
            generalize (at3 G k).2.2 = a3 at *
            generalize Aj = Ax at *
            subst hA
            have bA := below_new W1 (.cells #[.int .i64 a1, .int .i64 a2, .int .i64 a3] 39)
            have HO1 := Lib_hid (And.intro (own_below hs.out.1 bA (own_lt hs.out.1)) (hs.out.2.trans (bA.mono hs.out.2.size)))
            clear bA
            by_cases h1 : a1 = n
            · have b1 : (a1 == n) = true := beq_iff_eq.2 h1
              by_cases h2 : a2 = m
              · have b2 : (a2 == m) = true := beq_iff_eq.2 h2
                rw [if_pos ⟨h1, h2⟩] at hsn
                have HSN := Lib_hid hsn
                have bB := below_new (W1.alloc (.cells #[.int .i64 a1, .int .i64 a2, .int .i64 a3] 39)) (.cells #[.int .i64 a1, .int .i64 a2, .int .i64 a3] 39)
                have hr2 := ec_new (W1.alloc (.cells #[.int .i64 a1, .int .i64 a2, .int .i64 a3] 39)) (a1, a2, a3) 39
                rw [show (W1.alloc (.cells #[.int .i64 a1, .int .i64 a2, .int .i64 a3] 39)).heap.size = W1.heap.size + 1 by simp] at hr2
                have HO2 := Lib_hid (And.intro (own_below HO1.out.1 bB (own_lt HO1.out.1)) (And.intro hr2 (And.intro (HO1.out.2.trans (bB.mono HO1.out.2.size)) (Nat.le_trans HO1.out.2.size bB.size))))
                have hm1 : m' + 1 ≤ maxLen := by unfold maxLen; omega
                have hmb : (m' + 1) * 24 ≤ 140737488355328 := by omega
                clear hsn h1 h2 hs HO1 bB hr2
                go_wp2_with (at_builtin; (refine wpList_app rfl _ _ 34 rfl w.heap.size 39 i0 (.agg #[.int .i64 0, .int .i64 0, .int .i64 0]) 3 24 Try.underlying34 hi hz0 hz1 hz2 rfl (by decide) _ m' _ rfl HO2.out.1 (W1.heap.size + 1 + 1) (some ⟨W1.heap.size + 1, 0, none⟩) 1 1 (ec [(a1, a2, a3)]) rfl HO2.out.2.1 (ec_one _) hm1 hmb HO2.out.2.2.2 ?_); intro v' w6 hown6 hst; obtain ⟨Aw6, cw6, rfl⟩ := own_form' hown6)
                rw [← ec_append, ← HSN.out] at hown6
                have hbw6 := Lib_hid (And.intro hown6 (HO2.out.2.2.1.grown hst.grow HO2.out.2.2.2 (own_ge HO2.out.1)))
                have hm2 : Hid (m' + 1 = (betE (G.take (k + 1)) n m).length) := by rw [HSN.out, List.length_append, ← hm.out]; rfl
                clear hown6 hst HO2 e0 e1 e2
                go_roundw
                case rel => exact ⟨k + 1, m' + 1, cw6, Aw6, rfl, by go_num, by omega, hm2, hbw6⟩
                case measure => simp [intOf]; omega
              · have b2 : (a2 == m) = false := beq_eq_false_iff_ne.2 h2
                rw [if_neg (fun hc => h2 hc.2), List.append_nil] at hsn
                have HSN := Lib_hid hsn
                clear hsn h1 h2 hs
                go_wp2
                go_roundw
                case rel => exact ⟨k + 1, m', c', A', rfl, by go_num, by omega, by rw [HSN.out]; exact hm, by rw [HSN.out]; exact HO1⟩
                case measure => simp [intOf]; omega
            · have b1 : (a1 == n) = false := beq_eq_false_iff_ne.2 h1
              rw [if_neg (fun hc => h1 hc.1), List.append_nil] at hsn
              have HSN := Lib_hid hsn
              clear hsn h1 hs
              go_wp2
              go_roundw
              case rel => exact ⟨k + 1, m', c', A', rfl, by go_num, by omega, by rw [HSN.out]; exact hm, by rw [HSN.out]; exact HO1⟩
              case measure => simp [intOf]; omega
          · obtain rfl : k = q := by omega
            rw [List.take_of_length_le (by rw [HQ.out]; exact Nat.le_refl _)] at hm hs
            have SO := Lib_hid (sort_any hs.out.1 (by
              have h1 := hm.out
              have h2 : (betE G n m).length ≤ G.length := List.length_filter_le _ _
              have h3 := HQL.out
              have h4 := HQ.out
              omega))
            rw [HSRT.out] at SO
            have HL9 : Hid (m' = (betE L n m).length) := by rw [hm.out, ← HSRT.out, len_srtE]; rfl
            have HB := Lib_hid hs.out.2
            clear hs hm
            go_wp2_with fail
            refine SO.out.mono ?_
            rintro r w2 ⟨rfl, ho2, hb2, _⟩
            have HE := Lib_hid (And.intro ho2 (HB.out.trans hb2))
            clear ho2 hb2
            go_wp2
            go_ret
            have hx := HL9.out
            subst hx
            exact ⟨A', c', rfl, HE.out.1, HE.out.2⟩
      · have d1 : decide (((I j).length : Int) < ((R i).length : Int)) = false := decide_eq_false (by omega)
        go_upto_region 8 with (fail)
        clear d1 hs k2 k3 c2 c3 HRi HSi HQi
        have HRG := Lib_hid HRo.out
        have HSRT := Lib_hid HSo.out
        have HQL := Lib_hid HQo.out
        clear HRo HSo HQo
        generalize hSj : So i = sj at *
        generalize hIj : R i = G at *
        obtain ⟨Aj, cj⟩ := sj
        clear hSj hIj
        generalize hni : ((i : Nat) : Int) = n at *
        generalize hmj : ((j : Nat) : Int) = m at *
        generalize hq : G.length = q at *
        have HQ := Lib_hid hq
        clear hq
        have HIG := Lib_hid (fun (V : World) (hV : Below w.heap.size w V) (k : Nat) (hk : k < q) => e_at (HRG.out V hV) hk)
        go_wp2
        go_loopw [9, 11, 46] (fun o z i wr => ∃ (k m' c' : Nat) (A' : Option Addr), o = .slice A' m' c' ∧ i = .int .i64 k ∧ k ≤ q ∧ Hid (m' = (betE (G.take k) n m).length) ∧ Hid (wr.ownsRow w.heap.size 39 3 (.slice A' m' c') m' (ec (betE (G.take k) n m)) ∧ Below w.heap.size w wr)) (fun _ _ i _ => q - (intOf i).toNat)
        case atStart => exact ⟨0, 0, 0, none, rfl, rfl, Nat.zero_le _, rfl, own_zero _ _ _ _, Below.refl _ _⟩
        case round =>
          obtain ⟨k, m', c', A', rfl, rfl, hk, hm, hs⟩ := hrel
          by_cases hlt : k < q
          · have hsn : betE (G.take (k + 1)) n m = betE (G.take k) n m ++ if (at3 G k).1 = n ∧ (at3 G k).2.1 = m then [at3 G k] else [] := betE_snoc (by rw [HQ.out]; exact hlt) n m
            obtain ⟨bk, off, hA, _, e0, e1, e2⟩ := HIG.out _ hs.out.2 k hlt
            have hmn : m' ≤ 1000000 := by
              have h1 := hm.out
              have h2 : (betE (G.take k) n m).length ≤ (G.take k).length := List.length_filter_le _ _
              rw [List.length_take, HQ.out] at h2
              have h3 := HQL.out
              omega
            have hq6 : q ≤ 1000000 := by exact HQL.out
            have hki : (k : Int) < (q : Int) := by omega
            have hk0 : (0 : Int) ≤ (k : Int) := by omega
            have hAA := Lib_hid hA
            rw [show at3 G k = ((at3 G k).1, (at3 G k).2.1, (at3 G k).2.2) from rfl] at hsn
            obtain ⟨W1, rfl⟩ : ∃ W1, W1 = wr := ⟨wr, rfl⟩
            generalize (at3 G k).1 = a1 at *
            generalize (at3 G k).2.1 = a2 at *
            generalize (at3 G k).2.2 = a3 at *
            generalize Aj = Ax at *
            subst hA
            have bA := below_new W1 (.cells #[.int .i64 a1, .int .i64 a2, .int .i64 a3] 39)
            have HO1 := Lib_hid (And.intro (own_below hs.out.1 bA (own_lt hs.out.1)) (hs.out.2.trans (bA.mono hs.out.2.size)))
            clear bA
            by_cases h1 : a1 = n
            · have b1 : (a1 == n) = true := beq_iff_eq.2 h1
              by_cases h2 : a2 = m
              · have b2 : (a2 == m) = true := beq_iff_eq.2 h2
                rw [if_pos ⟨h1, h2⟩] at hsn
                have HSN := Lib_hid hsn
                have bB := below_new (W1.alloc (.cells #[.int .i64 a1, .int .i64 a2, .int .i64 a3] 39)) (.cells #[.int .i64 a1, .int .i64 a2, .int .i64 a3] 39)
                have hr2 := ec_new (W1.alloc (.cells #[.int .i64 a1, .int .i64 a2, .int .i64 a3] 39)) (a1, a2, a3) 39
                rw [show (W1.alloc (.cells #[.int .i64 a1, .int .i64 a2, .int .i64 a3] 39)).heap.size = W1.heap.size + 1 by simp] at hr2
                have HO2 := Lib_hid (And.intro (own_below HO1.out.1 bB (own_lt HO1.out.1)) (And.intro hr2 (And.intro (HO1.out.2.trans (bB.mono HO1.out.2.size)) (Nat.le_trans HO1.out.2.size bB.size))))
                have hm1 : m' + 1 ≤ maxLen := by unfold maxLen; omega
                have hmb : (m' + 1) * 24 ≤ 140737488355328 := by omega
                clear hsn h1 h2 hs HO1 bB hr2
                go_wp2_with (at_builtin; (refine wpList_app rfl _ _ 34 rfl w.heap.size 39 i0 (.agg #[.int .i64 0, .int .i64 0, .int .i64 0]) 3 24 Try.underlying34 hi hz0 hz1 hz2 rfl (by decide) _ m' _ rfl HO2.out.1 (W1.heap.size + 1 + 1) (some ⟨W1.heap.size + 1, 0, none⟩) 1 1 (ec [(a1, a2, a3)]) rfl HO2.out.2.1 (ec_one _) hm1 hmb HO2.out.2.2.2 ?_); intro v' w6 hown6 hst; obtain ⟨Aw6, cw6, rfl⟩ := own_form' hown6)
                rw [← ec_append, ← HSN.out] at hown6
                have hbw6 := Lib_hid (And.intro hown6 (HO2.out.2.2.1.grown hst.grow HO2.out.2.2.2 (own_ge HO2.out.1)))
                have hm2 : Hid (m' + 1 = (betE (G.take (k + 1)) n m).length) := by rw [HSN.out, List.length_append, ← hm.out]; rfl
                clear hown6 hst HO2 e0 e1 e2
                go_roundw
                case rel => exact ⟨k + 1, m' + 1, cw6, Aw6, rfl, by go_num, by omega, hm2, hbw6⟩
                case measure => simp [intOf]; omega
              · have b2 : (a2 == m) = false := beq_eq_false_iff_ne.2 h2
                rw [if_neg (fun hc => h2 hc.2), List.append_nil] at hsn
                have HSN := Lib_hid hsn
                clear hsn h1 h2 hs
                go_wp2
                go_roundw
                case rel => exact ⟨k + 1, m', c', A', rfl, by go_num, by omega, by rw [HSN.out]; exact hm, by rw [HSN.out]; exact HO1⟩
                case measure => simp [intOf]; omega
            · have b1 : (a1 == n) = false := beq_eq_false_iff_ne.2 h1
              rw [if_neg (fun hc => h1 hc.1), List.append_nil] at hsn
              have HSN := Lib_hid hsn
              clear hsn h1 hs
              go_wp2
              go_roundw
              case rel => exact ⟨k + 1, m', c', A', rfl, by go_num, by omega, by rw [HSN.out]; exact hm, by rw [HSN.out]; exact HO1⟩
              case measure => simp [intOf]; omega
          · obtain rfl : k = q := by omega
            rw [List.take_of_length_le (by rw [HQ.out]; exact Nat.le_refl _)] at hm hs
            have SO := Lib_hid (sort_any hs.out.1 (by
              have h1 := hm.out
              have h2 : (betE G n m).length ≤ G.length := List.length_filter_le _ _
              have h3 := HQL.out
              have h4 := HQ.out
              omega))
            rw [HSRT.out] at SO
            have HL9 : Hid (m' = (betE L n m).length) := by rw [hm.out, ← HSRT.out, len_srtE]; rfl
            have HB := Lib_hid hs.out.2
            clear hs hm
            go_wp2_with fail
            refine SO.out.mono ?_
            rintro r w2 ⟨rfl, ho2, hb2, _⟩
            have HE := Lib_hid (And.intro ho2 (HB.out.trans hb2))
            clear ho2 hb2
            go_wp2
            go_ret
            have hx := HL9.out
            subst hx
            exact ⟨A', c', rfl, HE.out.1, HE.out.2⟩
    · have hm' : isN N m = false := by cases h : isN N m with | false => rfl | true => exact absurd h hm
      rw [hn] at NO
      rw [hm'] at NP
      rw [betE_none HE.out (.inr hm')]
      clear hX hS hn hm hm' c2 c3
      go_enter Try.func36, Try.ntmps36
      go_wp2_with fail
      refine NO.out.mono ?_
      rintro e w1 ⟨rfl, rfl⟩
      go_wp2_with fail
      refine NP.out.mono ?_
      rintro e w1 ⟨rfl, rfl⟩
      go_wp2
      go_ret
      exact made_nil _ _ _
  · have hn' : isN N n = false := by cases h : isN N n with | false => rfl | true => exact absurd h hn
    rw [hn'] at NO
    rw [betE_none HE.out (.inl hn')]
    clear hX hS hn hn' c2 c3
    go_enter Try.func36, Try.ntmps36
    go_wp2_with fail
    refine NO.out.mono ?_
    rintro e w1 ⟨rfl, rfl⟩
    go_wp2
    go_ret
    exact made_nil _ _ _

end Go.Proofs.Ytopecdkkmbpnbaa
