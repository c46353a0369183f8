/-
  Layer 13: GraphKnown's walk.
-/
import Derived.Test.YtopecdkkmbpnbaaGok
namespace Go.Proofs.Ytopecdkkmbpnbaa
open Go Go.RowKit Go.Maps
set_option linter.unusedVariables false

theorem Try.infoAc : (Try.prog.info? 36).map (fun i => (i.zero, i.size, i.bytes)) = some (some (.agg #[.int .i64 0, .slice none 0 0]), 2, 32) := by kernel_rfl

theorem rdz_take {w : World} {B n t : Nat} {A : Option Addr} {l : List Int} (h : Rd w B 1 A n (zc l)) (ht : t ≤ n) : Rd w B 1 A t (zc (l.take t)) := by
  have hl := rdz_count h
  refine ⟨by rw [zc_length, List.length_take]; omega, fun h0 => ?_⟩
  obtain ⟨ad, e, hb, hc⟩ := h.lies (by omega)
  refine ⟨ad, e, hb, fun j u hu => hc j u ?_⟩
  have hj : j < (zc (l.take t)).length := (List.getElem?_eq_some_iff.1 hu).1
  rw [zc_length, List.length_take] at hj
  rw [← hu]
  simp [zc, show j < t by omega]

/-- GraphPlays at a row of one call that was just written out. -/
theorem plays_lit (V : World) (es : List Ed) (n1 : Nat) (cs : Array Value) (hcs : cs.toList = ec es) (hn : es.length = n1) (hs : n1 ≤ 1000) (hok : ∀ e ∈ es, EdOk e) (size n m : Int) :
    Calls Try.prog 3 #[.int .i64 size, .slice (some ⟨V.heap.size + 1, 0, none⟩) 1 1, .int .i64 n, .int .i64 m] ((V.alloc (.cells cs 39)).alloc (.cells #[.int .i64 0, .slice (some ⟨V.heap.size, 0, none⟩) n1 n1] 36))
      fun e w' => e = .returned (.bool true) ∧ Below ((V.alloc (.cells cs 39)).alloc (.cells #[.int .i64 0, .slice (some ⟨V.heap.size, 0, none⟩) n1 n1] 36)).heap.size ((V.alloc (.cells cs 39)).alloc (.cells #[.int .i64 0, .slice (some ⟨V.heap.size, 0, none⟩) n1 n1] 36)) w' := by
  have s1 : (V.alloc (.cells cs 39)).heap.size = V.heap.size + 1 := by simp
  have h1 := ac_new (V.alloc (.cells cs 39)) ⟨0, some ⟨V.heap.size, 0, none⟩, n1, n1, es⟩
  have b1 := below_new (V.alloc (.cells cs 39)) (.cells #[.int .i64 0, .slice (some ⟨V.heap.size, 0, none⟩) n1 n1] 36)
  have h2 := rd_lit (w := V) es cs n1 hcs hn hs _ rfl
  rw [s1] at h1
  refine plays13_any (l := [⟨0, some ⟨V.heap.size, 0, none⟩, n1, n1, es⟩]) size n m (h1.more (by simp)) (fun e he => ?_) (by omega)
  rw [List.mem_singleton] at he
  subst he
  exact ⟨((h2.more (Nat.le_of_eq s1.symm)).below b1).more b1.size, hok, ⟨Nat.le_refl _, by show n1 ≤ _; omega⟩, by show I64 0; unfold I64; decide⟩

set_option maxRecDepth 100000 in
set_option maxHeartbeats 8000000 in
theorem gknown_any (w : World) : Calls Try.prog 7 #[] w fun e w' => e = .returned (.bool true) ∧ Below w.heap.size w w' := by
  obtain ⟨i0, hi, hz0, hz1, hz2⟩ := info_parts Try.infoE
  obtain ⟨ia, hia, hza0, hza1, hza2⟩ := info_parts Try.infoAc
  obtain ⟨ii, hii, hzi0, hzi1, hzi2⟩ := info_parts Try.infoI
  have HW := Lib_hid (fun V : World => works_any V)
  go_enter Try.func7, Try.ntmps7
  go_wp2
  go_loopw [1, 2] (fun a z wr => ∃ k i : Nat, a = .int .i64 k ∧ z = .int .i64 i ∧ k < 100003 ∧ i ≤ 50 ∧ Hid (Below w.heap.size w wr)) (fun _ z _ => 50 - (intOf z).toNat)
  case atStart => exact ⟨1, 0, rfl, rfl, by omega, by omega, Below.refl _ _⟩
  case round =>
    obtain ⟨k0, i, rfl, rfl, hk0, hi50, hB⟩ := hrel
    obtain ⟨w1, rfl⟩ : ∃ w1, w1 = wr := ⟨wr, rfl⟩
    by_cases hlt : i < 50
    · have di : decide ((i : Int) < 50) = true := decide_eq_true (by omega)
      have K1 : Hid (Kn w1.heap.size w w1 none 0 0 [] none 0 0 [] none 0 0 []) := ⟨own_zero _ _ _ _, own_zero _ _ _ _, own_zero _ _ _ _, (fun k e => by cases e), (fun k e => by cases e), (fun k e => by cases e), (fun a ha => by cases ha), (fun e he => by cases he), hB.out, hB.out.size, Nat.le_refl _⟩
      go_wp2
      go_loopw [1, 3, 4, 5, 6] (fun a v3 v4 v5 z W => ∃ (k n m c3 c4 c5 : Nat) (A3 A4 A5 : Option Addr) (acs : List AcV) (all : List Ed) (ord : List Int), a = .int .i64 k ∧ v3 = .slice A3 n c3 ∧ v4 = .slice A4 m c4 ∧ v5 = .slice A5 n c5 ∧ z = .int .i64 n ∧ k < 100003 ∧ n ≤ 10 ∧ m ≤ 4 * n ∧ Hid (Kn w1.heap.size w W A3 n c3 acs A4 m c4 all A5 n c5 ord)) (fun _ _ _ _ z _ => 10 - (intOf z).toNat)
      case atStart => exact ⟨k0, 0, 0, 0, 0, 0, none, none, none, [], [], [], rfl, rfl, rfl, rfl, rfl, hk0, Nat.zero_le _, Nat.zero_le _, K1⟩
      case round =>
        obtain ⟨k1, n, m, c3, c4, c5, A3, A4, A5, acs, all, ord, rfl, rfl, rfl, rfl, rfl, hk1, hn10, hm4, hK⟩ := hrel
        obtain ⟨w2, rfl⟩ : ∃ w2, w2 = wr := ⟨wr, rfl⟩
        by_cases hnl : n < 10
        · have dn : decide ((n : Int) < 10) = true := decide_eq_true (by omega)
          go_wp2
          go_loopw [1, 7, 8] (fun a v7 z W => ∃ (k m7 c7 : Nat) (A7 : Option Addr) (lr : List Ed), a = .int .i64 k ∧ v7 = .slice A7 m7 c7 ∧ z = .int .i64 m7 ∧ k < 100003 ∧ m7 ≤ 4 ∧ Hid (∀ e ∈ lr, EdOk e) ∧ Hid (W.ownsRow w2.heap.size 39 3 (.slice A7 m7 c7) m7 (ec lr) ∧ Below w2.heap.size w2 W)) (fun _ _ z _ => 5 - (intOf z).toNat)
          case atStart => exact ⟨k1, 0, 0, none, [], rfl, rfl, rfl, hk1, Nat.zero_le _, (fun e he => by cases he), own_zero _ _ _ _, Below.refl _ _⟩
          case round =>
            obtain ⟨k, m7, c7, A7, lr, rfl, rfl, rfl, hk, hm7, hE, hs⟩ := hrel
            obtain ⟨w3, rfl⟩ : ∃ w3, w3 = wr := ⟨wr, rfl⟩
            by_cases hml : m7 < k % 4
            · have dm : decide ((m7 : Int) < (k : Int) % 4) = true := decide_eq_true (by omega)
              have hm3 : m7 < 4 := by omega
              have bA := below_new w3 (.cells #[.int .i64 ((k : Int) % 5), .int .i64 ((k : Int) / 5 % 5), .int .i64 ((k : Int) / 25 % 3)] 39)
              have HO2 := Lib_hid (And.intro (own_below hs.out.1 bA (own_lt hs.out.1)) (And.intro (ec_new w3 ((k : Int) % 5, (k : Int) / 5 % 5, (k : Int) / 25 % 3) 39) (And.intro (hs.out.2.trans (bA.mono hs.out.2.size)) (Nat.le_trans hs.out.2.size bA.size))))
              have hm1 : m7 + 1 ≤ maxLen := by unfold maxLen; omega
              have hmb : (m7 + 1) * 24 ≤ 140737488355328 := by omega
              clear bA
              go_upto_region 16 with (at_builtin; (refine wpList_app rfl _ _ 34 rfl w2.heap.size 39 i0 (.agg #[.int .i64 0, .int .i64 0, .int .i64 0]) 3 24 Try.underlying34 hi hz0 hz1 hz2 rfl (by decide) _ m7 _ rfl HO2.out.1 (w3.heap.size + 1) (some ⟨w3.heap.size, 0, none⟩) 1 1 (ec [((k : Int) % 5, (k : Int) / 5 % 5, (k : Int) / 25 % 3)]) rfl HO2.out.2.1 (ec_one _) hm1 hmb HO2.out.2.2.2 ?_); intro v' w6 hown6 hst; obtain ⟨Aw6, cw6, rfl⟩ := own_form' hown6)
              rw [← ec_append] at hown6
              have hbw6 := Lib_hid (And.intro hown6 (HO2.out.2.2.1.grown hst.grow HO2.out.2.2.2 (own_ge HO2.out.1)))
              have hE2 : Hid (∀ e ∈ lr ++ [((k : Int) % 5, (k : Int) / 5 % 5, (k : Int) / 25 % 3)], EdOk e) := fun e he => by
                rcases List.mem_append.1 he with he | he
                · exact hE.out e he
                · rw [List.mem_singleton] at he
                  subst he
                  exact ⟨show I64 ((k : Int) % 5) by unfold I64; omega, show I64 ((k : Int) / 5 % 5) by unfold I64; omega, show I64 ((k : Int) / 25 % 3) by unfold I64; omega⟩
              clear hown6 hst HO2 hs hE
              go_wp2
              go_roundw
              case rel => exact ⟨(k * 31 + 7 * m7 + 11) % 100003, m7 + 1, cw6, Aw6, _, by simp only [Value.int.injEq, true_and]; omega, rfl, by go_num, by omega, by omega, hE2, hbw6⟩
              case measure => simp [intOf]; omega
            · have dm : decide ((m7 : Int) < (k : Int) % 4) = false := decide_eq_false (by omega)
              have hk4 : I64 ((k : Int) % 4) := by unfold I64; omega
              have HK3 := Lib_hid (hK.out.later hs.out.2)
              have bA := below_new w3 (.cells #[.int .i64 ((k : Int) % 4), .slice A7 m7 c7] 36)
              have HKA := Lib_hid (HK3.out.later bA)
              have H7 : Hid (Rd w3 w3.heap.size 3 A7 m7 (ec lr) ∧ (m7 ≤ c7 ∧ c7 ≤ 9223372036854775807) ∧ ∀ ad, A7 = some ad → w2.heap.size ≤ ad.block ∧ ad.block < w3.heap.size) := ⟨(Rd.own hs.out.1), own_cap hs.out.1, fun ad e => ⟨own_ge hs.out.1 ad.block (by rw [e]; rfl), own_lt hs.out.1 ad.block (by rw [e]; rfl)⟩⟩
              have HRA := Lib_hid (ac_new w3 ⟨(k : Int) % 4, A7, m7, c7, lr⟩)
              have hm1 : n + 1 ≤ maxLen := by unfold maxLen; omega
              have hmb : (n + 1) * 32 ≤ 140737488355328 := by omega
              have hbs := HKA.out.sz
              have HB7 := Lib_hid bA
              clear bA
              go_upto_region 18 with (at_builtin; (refine wpList_app rfl _ _ 22 rfl w1.heap.size 36 ia (.agg #[.int .i64 0, .slice none 0 0]) 2 32 Try.underlying22 hia hza0 hza1 hza2 rfl (by decide) _ n _ rfl HKA.out.o3 (w3.heap.size + 1) (some ⟨w3.heap.size, 0, none⟩) 1 1 (acC [⟨(k : Int) % 4, A7, m7, c7, lr⟩]) rfl HRA.out (acC_oneC _) hm1 hmb hbs ?_); intro v' w6 hown6 hst; obtain ⟨A6, c6, rfl⟩ := own_form' hown6)
              have hE9 := Lib_hid hE.out
              have hst : Stp _ w6 (.slice A3 n c3) (.slice A6 (n + 1) c6) := hst
              have K6 : Hid (Kn w1.heap.size w w6 A6 (n + 1) c6 (acs ++ [⟨(k : Int) % 4, A7, m7, c7, lr⟩]) A4 m c4 all A5 n c5 ord ∧ Rd w6 w6.heap.size 3 A7 m7 (ec lr)) := by
                have hne : ∀ ad, A7 = some ad → ob A3 ≠ some ad.block ∧ ob A4 ≠ some ad.block ∧ ob A5 ≠ some ad.block := fun ad e => by
                  have h1 := (H7.out.2.2 ad e).1
                  exact ⟨fun e2 => by have := own_lt hK.out.o3 _ (by rw [ob_eq]; exact e2); omega, fun e2 => by have := own_lt hK.out.o4 _ (by rw [ob_eq]; exact e2); omega, fun e2 => by have := own_lt hK.out.o5 _ (by rw [ob_eq]; exact e2); omega⟩
                have hsA := HB7.out.size
                have hrd : Rd w6 w6.heap.size 3 A7 m7 (ec lr) := (Rd.offD H7.out.1 (fun ad e hl => (hst.grow.block ad.block (by omega) (fun e2 => (hne ad e).1 (by rw [← ob_eq A3 n c3]; exact e2.symm))).trans (HB7.out.block _ hl)) (Nat.le_refl _)).more (Nat.le_trans hsA hst.grow.size)
                refine ⟨HKA.out.step3 hst (by rw [acC_append]; exact hown6) (fun x hx => ?_), hrd⟩
                rcases List.mem_append.1 hx with hx | hx
                · exact .inl hx
                · rw [List.mem_singleton] at hx
                  subst hx
                  refine .inr ⟨hrd, hE9.out, H7.out.2.1, hk4, hm7, fun ad e => ⟨fun e2 => ?_, (hne ad e).2.1, (hne ad e).2.2, Nat.lt_of_lt_of_le (H7.out.2.2 ad e).2 (Nat.le_trans hsA hst.grow.size)⟩⟩
                  rcases hst.row with h1 | ⟨k', h1, h2⟩
                  · rw [ob_eq, ob_eq, e2] at h1
                    exact (hne ad e).1 h1.symm
                  · rw [ob_eq, e2] at h1
                    injection h1 with h1
                    have := (H7.out.2.2 ad e).2
                    omega
              clear hown6 hst HKA HK3 HRA HB7 hs hE hm1 hmb hbs
              have hm1 : m + m7 ≤ maxLen := by unfold maxLen; omega
              have hmb : (m + m7) * 24 ≤ 140737488355328 := by omega
              have hbs := K6.out.1.sz
              go_upto_region 19 with (at_builtin; (refine wpList_app rfl _ _ 34 rfl w1.heap.size 39 i0 (.agg #[.int .i64 0, .int .i64 0, .int .i64 0]) 3 24 Try.underlying34 hi hz0 hz1 hz2 rfl (by decide) _ m _ rfl K6.out.1.o4 w6.heap.size A7 m7 c7 (ec lr) rfl K6.out.2 (ec_one _) hm1 hmb hbs ?_); intro v' w7 hown7 hst; obtain ⟨A8, c8, rfl⟩ := own_form' hown7)
              have K7 : Hid (Kn w1.heap.size w w7 A6 (n + 1) c6 (acs ++ [⟨(k : Int) % 4, A7, m7, c7, lr⟩]) A8 (m + m7) c8 (all ++ lr) A5 n c5 ord) := K6.out.1.step4 hst (by rw [ec_append]; exact hown7) (fun e he => (List.mem_append.1 he).elim (K6.out.1.ed e) (hE9.out e))
              clear hown7 hst K6 hm1 hmb hbs
              have hm1 : n + 1 ≤ maxLen := by unfold maxLen; omega
              have hmb : (n + 1) * 8 ≤ 140737488355328 := by omega
              have bB := below_new w7 (.cells #[.int .i64 (k : Int)] 3)
              have K8 := Lib_hid (K7.out.later bB)
              have hbs := K8.out.sz
              have HZN := Lib_hid (zc_new1 w7 (k : Int))
              clear bB K7
              go_upto_region 20 with (at_builtin; (refine wpList_app rfl _ _ 55 rfl w1.heap.size 3 ii (.int .i64 0) 1 8 Try.underlying55 hii hzi0 hzi1 hzi2 rfl (by decide) _ n _ rfl K8.out.o5 (w7.heap.size + 1) (some ⟨w7.heap.size, 0, none⟩) 1 1 (zc [(k : Int)]) rfl HZN.out (zc_one _) hm1 hmb hbs ?_); intro v' w8 hown8 hst; obtain ⟨A9, c9, rfl⟩ := own_form' hown8)
              have K9 : Hid (Kn w1.heap.size w w8 A6 (n + 1) c6 (acs ++ [⟨(k : Int) % 4, A7, m7, c7, lr⟩]) A8 (m + m7) c8 (all ++ lr) A9 (n + 1) c9 (ord ++ [(k : Int)])) := K8.out.step5 hst (by rw [zc_append]; exact hown8)
              clear hown8 hst K8 HZN hm1 hmb hbs
              go_wp2
              go_roundw
              case rel => exact ⟨(k * 31 + 7 * n + 11) % 100003, n + 1, m + m7, c6, c8, c9, A6, A8, A9, _, _, _, by simp only [Value.int.injEq, true_and]; omega, rfl, rfl, rfl, by go_num, by omega, by omega, by omega, K9⟩
              case measure => simp [intOf]; omega
        · obtain rfl : n = 10 := by omega
          have hcap := own_cap hK.out.o5
          have h10a : (0 : Int) ≤ (i : Int) % 10 := by omega
          have h10b : (i : Int) % 10 ≤ (c5 : Int) := by omega
          have PL := Lib_hid (fun (size n m : Int) => plays13_any (cl := c3) size n m ((Rd.own hK.out.o3).more (Nat.le_refl _)) (fun a ha => by obtain ⟨h1, h2, h3, h4, h5, h6⟩ := hK.out.each a ha; exact ⟨h1, h2, h3, h4⟩) (by omega))
          go_wp2_with fail
          refine (PL.out _ _ _).mono ?_
          rintro r w11 ⟨rfl, hb1⟩
          have HK1 := Lib_hid (hK.out.later hb1)
          clear PL hb1
          have TU := Lib_hid (fun (t : Nat) (ht : t ≤ 10) => turns_any (cl := c4) (cn := c5) (i : Int) ((Rd.own HK1.out.o4).more (Nat.le_refl _)) (Nat.le_refl _) HK1.out.ed (rdz_take ((Rd.own HK1.out.o5).more (Nat.le_refl _)) ht) (Nat.le_refl _) (by omega) (by omega) ((i : Int), 0, 0) ((k1 : Int) % 50, 1, 0))
          unfold eV at TU
          go_wp2_with fail
          refine (TU.out _ (by omega)).mono ?_
          rintro r w12 ⟨rfl, hb2⟩
          have HK2 := Lib_hid (HK1.out.later hb2)
          clear TU hb2 HK1
          have OR := Lib_hid (orders_any (cl := c4) (co := c5) (i : Int) (i : Int) ((Rd.own HK2.out.o4).more (Nat.le_refl _)) (Nat.le_refl _) HK2.out.ed ((Rd.own HK2.out.o5).more (Nat.le_refl _)) (Nat.le_refl _) (by omega) (by omega))
          go_wp2_with fail
          refine OR.out.mono ?_
          rintro r w13 ⟨rfl, hb3⟩
          have HK3 := Lib_hid (HK2.out.later hb3)
          clear OR hb3 HK2
          have NO := Lib_hid (gnone_any 0 0 (i : Int) (i : Int) w13)
          go_wp2_with fail
          refine NO.out.mono ?_
          rintro r w14 ⟨rfl, hb4⟩
          have HB9 := Lib_hid (HK3.out.later hb4).b
          clear NO hb4 HK3 hK hcap h10a h10b
          go_wp2
          go_roundw
          case rel => exact ⟨k1, i + 1, rfl, by go_num, hk1, by omega, HB9⟩
          case measure => simp [intOf]; omega
    · obtain rfl : i = 50 := by omega
      have PN := Lib_hid (fun (V : World) (size : Int) => plays13_any (w := V) (l := []) (Al := none) (nl := 0) (cl := 0) size 0 0 Rd.zero (fun e he => by cases he) (by omega))
      have PE1 := Lib_hid (fun V : World => plays_lit V [((0 : Int), (0 : Int), (0 : Int))] 1 #[.int .i64 0, .int .i64 0, .int .i64 0] rfl rfl (by decide) (fun e he => by rw [List.mem_singleton] at he; subst he; exact ed_small (by decide)) 0 0 0)
      have PE2 := Lib_hid (fun V : World => plays_lit V [((1 : Int), (1 : Int), (-9223372036854775808 : Int)), ((1 : Int), (-1 : Int), (0 : Int))] 2 #[.int .i64 1, .int .i64 1, .int .i64 (-9223372036854775808), .int .i64 1, .int .i64 (-1), .int .i64 0] rfl rfl (by decide) (fun e he => by
        simp only [List.mem_cons, List.not_mem_nil, or_false] at he
        rcases he with rfl | rfl
        · exact ⟨show I64 1 by unfold I64; decide, show I64 1 by unfold I64; decide, show I64 (-9223372036854775808) by unfold I64; decide⟩
        · exact ed_small (by decide)) 2 1 1)
      have hlt3 : Hid (∀ V : World, V.heap.size ≤ (V.alloc (.cells #[.int .i64 0, .int .i64 0, .int .i64 0] 39)).heap.size) := fun V => by simp
      go_wp2_with fail
      refine (PN.out _ _).mono ?_
      rintro r w2 ⟨rfl, hb1⟩
      have HB1 := Lib_hid (hB.out.trans (hb1.mono hB.out.size))
      clear hb1
      go_wp2_with fail
      refine (PN.out _ _).mono ?_
      rintro r w3 ⟨rfl, hb2⟩
      have HB2 := Lib_hid (HB1.out.trans (hb2.mono HB1.out.size))
      clear hb2
      go_wp2_with fail
      refine (PE1.out _).mono ?_
      rintro r w4 ⟨rfl, hb3⟩
      have HB3 : Hid (Below w.heap.size w w4) := by
        have g1 := below_new w3 (.cells #[.int .i64 0, .int .i64 0, .int .i64 0] 39)
        have g2 := HB2.out.trans (g1.mono HB2.out.size)
        have g3 := below_new (w3.alloc (.cells #[.int .i64 0, .int .i64 0, .int .i64 0] 39)) (.cells #[.int .i64 0, .slice (some ⟨w3.heap.size, 0, none⟩) 1 1] 36)
        have g4 := g2.trans (g3.mono g2.size)
        exact g4.trans (hb3.mono g4.size)
      clear hb3
      go_wp2_with fail
      refine (PE2.out _).mono ?_
      rintro r w5 ⟨rfl, hb4⟩
      have HB4 : Hid (Below w.heap.size w w5) := by
        have g1 := below_new w4 (.cells #[.int .i64 1, .int .i64 1, .int .i64 (-9223372036854775808), .int .i64 1, .int .i64 (-1), .int .i64 0] 39)
        have g2 := HB3.out.trans (g1.mono HB3.out.size)
        have g3 := below_new (w4.alloc (.cells #[.int .i64 1, .int .i64 1, .int .i64 (-9223372036854775808), .int .i64 1, .int .i64 (-1), .int .i64 0] 39)) (.cells #[.int .i64 0, .slice (some ⟨w4.heap.size, 0, none⟩) 2 2] 36)
        have g4 := g2.trans (g3.mono g2.size)
        exact g4.trans (hb4.mono g4.size)
      clear hb4
      go_wp2_with fail
      refine (HW.out _).mono ?_
      rintro r w9 ⟨rfl, hb9⟩
      have hb99 := Lib_hid (HB4.out.trans (hb9.mono HB4.out.size))
      clear hb9
      go_wp2
      go_ret
      exact ⟨rfl, hb99.out⟩

end Go.Proofs.Ytopecdkkmbpnbaa
