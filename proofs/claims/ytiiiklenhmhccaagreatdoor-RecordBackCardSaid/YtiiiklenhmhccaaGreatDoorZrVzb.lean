/-
  Layer 5: RecordBack's walk. (Out of gen_vzb.py.)
-/
import Derived.Test.YtiiiklenhmhccaaGreatDoorZrSup
import Derived.Deep.DeepCutAuto
import Derived.Test.YtiiiklenhmhccaaGreatDoorZrVyz
import Derived.Test.YtiiiklenhmhccaaGreatDoorZrVyq

namespace Go.Proofs.YtiiiklenhmhccaaGreatDoor
open Go Go.RowKit
set_option linter.unusedVariables false
theorem rv_cells (u : Rv) : ∃ y0 y1 y2 y3 y4 y5 y6 y7 y8 y9 y10 : Value, u.val = .agg #[y0, y1, y2, y3, y4, y5, y6, y7, y8, y9, y10] := ⟨_, _, _, _, _, _, _, _, _, _, _, rfl⟩
theorem rv_form (u : Rv) : ∃ (k t x w n v pk pa pb : Int) (A1 : Option Addr) (n1 c1 : Nat) (A2 : Option Addr) (n2 c2 : Nat), u.val = .agg #[.int .i64 k, .int .u64 t, .int .u64 x, .int .u64 w, .int .u64 n, .int .u64 v, .int .i64 pk, .int .u64 pa, .int .u64 pb, .slice A1 n1 c1, .slice A2 n2 c2] := ⟨_, _, _, _, _, _, _, _, _, _, _, _, _, _, _, rfl⟩
theorem three_new (w : World) (o1 o2 o3 : Obj) : ((((w.alloc o1).alloc o2).alloc o3).heap[w.heap.size]? = some o1 ∧ (((w.alloc o1).alloc o2).alloc o3).heap[w.heap.size + 1]? = some o2 ∧ (((w.alloc o1).alloc o2).alloc o3).heap[w.heap.size + 1 + 1]? = some o3) ∧
    (((w.alloc o1).alloc o2).alloc o3).heap.size = w.heap.size + 1 + 1 + 1 ∧ Below w.heap.size w (((w.alloc o1).alloc o2).alloc o3) := by
  have b := ((below_new w o1).alloc (by simp only [World.size_alloc]; omega) o2).alloc (by simp only [World.size_alloc]; omega) o3
  have h1 := heap_alloc_new w o1
  have h2 := heap_alloc_new (w.alloc o1) o2
  have h3 := heap_alloc_new ((w.alloc o1).alloc o2) o3
  simp only [World.size_alloc] at h2 h3
  exact ⟨⟨(Below.heap_alloc _ _ _ (by simp only [World.size_alloc]; omega)).trans ((Below.heap_alloc _ _ _ (by simp only [World.size_alloc]; omega)).trans h1), (Below.heap_alloc _ _ _ (by simp only [World.size_alloc]; omega)).trans h2, h3⟩, by simp only [World.size_alloc], b⟩
set_option maxRecDepth 100000 in
set_option maxHeartbeats 25600000 in
theorem recback_any (B : Nat) (r o : Rv) (kf : Nat) (Af : Option Addr) (nf cf : Nat) (lf : List Nat) (s : List UInt8) (w : World) (hkf : kf < 256) (hrf : Rd w w.heap.size 1 Af nf (bs lf)) (hbf : ∀ x ∈ lf, x < 256) (hL : RLies w 0 w.heap.size r) (hO : RLies w 0 w.heap.size o) (hE : EnvM B w) (hB : B ≤ w.heap.size) :
    Calls Tryz.prog 6 #[r.val, o.val, .agg #[.int .u8 (kf : Int), .slice Af nf cf], .string ⟨s.toArray⟩] w fun e w' => e = .returned (.bool true) ∧ Below w.heap.size w w' := by
  have WK : Hid (∀ W, Below w.heap.size w W → Calls Tryz.prog 9 #[] W fun e w' => e = .returned (.bool true) ∧ Below W.heap.size W w') := fun W hW => works5_any B W (hE.under (hW.mono (Nat.le_refl _)) hB) (Nat.le_trans hB hW.size)
  have FW : Hid (∀ W, Below w.heap.size w W → Calls Tryz.prog 8 #[r.val] W fun e w' => e = .returned (.bool (decide (r.es.length ≤ 60 ∧ r.p.abs.count ≤ 60))) ∧ Below W.heap.size W w') := fun W hW => fewrec5_any r W 0 w.heap.size (hL.under hW) hW.size
  have FO : Hid (∀ W, Below w.heap.size w W → Calls Tryz.prog 8 #[o.val] W fun e w' => e = .returned (.bool (decide (o.es.length ≤ 60 ∧ o.p.abs.count ≤ 60))) ∧ Below W.heap.size W w') := fun W hW => fewrec5_any o W 0 w.heap.size (hO.under hW) hW.size
  have PPr : Hid (r.es.length ≤ 60 → ∀ W, Below w.heap.size w W → Calls Tryz.prog 12 #[r.val] W (PutU r.abs W)) := fun h W hW => (rput5_any r W 0 w.heap.size (hL.under hW) hW.size (by omega)).mono fun e w' h => putU h
  have PPo : Hid (o.es.length ≤ 60 → ∀ W, Below w.heap.size w W → Calls Tryz.prog 12 #[o.val] W (PutU o.abs W)) := fun h W hW => (rput5_any o W 0 w.heap.size (hO.under hW) hW.size (by omega)).mono fun e w' h => putU h
  have TXr : Hid (r.es.length ≤ 60 ∧ r.p.abs.count ≤ 60 → ∀ W, Below w.heap.size w W → Calls Tryz.prog 14 #[r.val] W fun e w' => e = .returned (.string ⟨r.abs.text.toArray⟩) ∧ Below W.heap.size W w') := fun h W hW => ptext5_any B r W 0 w.heap.size (hL.under hW) hW.size (hE.under (hW.mono (Nat.le_refl _)) hB).1 (Nat.le_trans hB hW.size) (by omega) (by omega)
  have TXo : Hid (o.es.length ≤ 60 ∧ o.p.abs.count ≤ 60 → ∀ W, Below w.heap.size w W → Calls Tryz.prog 14 #[o.val] W fun e w' => e = .returned (.string ⟨o.abs.text.toArray⟩) ∧ Below W.heap.size W w') := fun h W hW => ptext5_any B o W 0 w.heap.size (hO.under hW) hW.size (hE.under (hW.mono (Nat.le_refl _)) hB).1 (Nat.le_trans hB hW.size) (by omega) (by omega)
  have SMo : Hid (r.es.length ≤ 60 → o.es.length ≤ 60 → ∀ W, Below w.heap.size w W → Calls Tryz.prog 20 #[r.val, o.val] W fun e w' => e = .returned (.bool (r.abs.sameB o.abs)) ∧ Below W.heap.size W w') := fun h1 h2 W hW => msame5_any r o W 0 w.heap.size 0 w.heap.size (hL.under hW) hW.size (hO.under hW) hW.size (by omega) (by omega)
  have SMc : Hid (r.es.length ≤ 60 → ∀ (W : World) (u : Rv) (lo hi : Nat), Below w.heap.size w W → u.abs = r.abs → RLies W lo hi u → hi ≤ W.heap.size → Calls Tryz.prog 20 #[u.val, r.val] W fun e w' => e = .returned (.bool true) ∧ Below W.heap.size W w') := fun h W u lo hi hW he hu h2 => by
    have hle : u.es = r.es := congrArg Rc.es he
    refine (msame5_any u r W lo hi 0 w.heap.size hu h2 (hL.under hW) hW.size (by rw [hle]; omega) (by omega)).mono ?_
    rintro e w' ⟨rfl, hb⟩
    exact ⟨by rw [he, sameR_self], hb⟩
  have LN : Hid (∀ (y : List UInt8), y.length ≤ 1000000 → ∀ W, Below w.heap.size w W → Calls Tryz.prog 31 #[.string ⟨y.toArray⟩] W (RecEnd (ansR (lineB y)) W)) := fun y hy W hW => pline_any B y W (hE.under (hW.mono (Nat.le_refl _)) hB) (Nat.le_trans hB hW.size) hy
  have TXu : Hid (∀ (W : World) (u : Rv) (lo hi : Nat), Below w.heap.size w W → RLies W lo hi u → hi ≤ W.heap.size → u.abs.rightB = true → u.es.length ≤ 1000 → Calls Tryz.prog 14 #[u.val] W fun e w' => e = .returned (.string ⟨u.abs.text.toArray⟩) ∧ Below W.heap.size W w') := fun W u lo hi hW hu h2 hr he =>
    ptext5_any B u W lo hi hu h2 (hE.under (hW.mono (Nat.le_refl _)) hB).1 (Nat.le_trans hB hW.size) (by have := right_count hr; show u.abs.p.count ≤ _; omega) he
  have HPR : Hid (r.es.length ≤ 60 → r.abs.rightB = true → ansP (frD r.abs).1 (frD r.abs).2 = (r.abs, 0) ∧ erD r.abs = 0 ∧ (frD r.abs).1 < 256 ∧ (frD r.abs).2.length ≤ 100000 ∧ ansR (lineB r.abs.text) = (r.abs, 0) ∧ r.abs.text.length ≤ 1000000) := fun he hr => by
    have hpl := put_len hL.p
    obtain ⟨h1, h2⟩ := back_parse hr hL.okR (by show r.p.abs.put.length < _; omega) (by show r.es.length < _; omega)
    have h17 := (right_shape hr).1
    have hc := right_count hr
    refine ⟨h1, h2, ?_, ?_, back_line hr hL.okR, ?_⟩
    · unfold frD; rw [if_pos hr]; show r.abs.kind.toNat < 256; omega
    · unfold frD; rw [if_pos hr]; exact stand_short hL (by omega)
    · unfold Rc.text; rw [if_pos hr]; exact tell_size r w 0 w.heap.size hL (by show r.abs.p.count ≤ _; omega) h17 (by omega)
  have HPN : Hid ((r.abs.rightB = false → erD r.abs = 50) ∧ (o.abs.rightB = false → erD o.abs = 50) ∧ (o.abs.rightB = true → erD o.abs = 0)) := ⟨fun h => by unfold erD; rw [h]; rfl, fun h => by unfold erD; rw [h]; rfl, fun h => by unfold erD; rw [h]; rfl⟩
  have HBO : Hid (r.es.length ≤ 60 → o.es.length ≤ 60 → r.abs.rightB = true → o.abs.rightB = true → sameF ((frD r.abs).1, (frD r.abs).2) ((frD o.abs).1, (frD o.abs).2) = r.abs.sameB o.abs ∧ decide (r.abs.text = o.abs.text) = r.abs.sameB o.abs) := fun h1 h2 h3 h4 => by
    have hpl := put_len hL.p
    have hpl2 := put_len hO.p
    obtain ⟨k1, k2⟩ := both_alike h3 hL.okR (by show r.p.abs.put.length < _; omega) (by show r.es.length < _; omega) h4 hO.okR (by show o.p.abs.put.length < _; omega) (by show o.es.length < _; omega)
    refine ⟨?_, k2⟩
    rw [← k1, Bool.eq_iff_iff, sameF_eq, decide_eq_true_iff]
  have HFB : Hid ((∀ x ∈ (frD r.abs).2, x < 256) ∧ (∀ x ∈ (frD o.abs).2, x < 256)) := ⟨frD_byte _, frD_byte _⟩
  obtain ⟨xa0, xa1, xa2, xa3, xa4, xa5, xa6, xa7, xa8, xa9, xa10, hra⟩ := rv_cells r
  obtain ⟨xo0, xo1, xo2, xo3, xo4, xo5, xo6, xo7, xo8, xo9, xo10, hoa⟩ := rv_cells o
  rw [hra] at FW PPr TXr SMo SMc ⊢
  rw [hoa] at FO PPo TXo SMo ⊢
  have HRF : Hid (∀ W, Below w.heap.size w W → Rd W W.heap.size 1 Af nf (bs lf)) := fun W hW => (hrf.below hW).more hW.size
  have HNL : Hid (lf.length = nf) := hrf.count
  have HBF := Lib_hid hbf
  clear hL hO hE hra hoa hrf hbf
  generalize r.abs = ra at *
  generalize o.abs = oa at *
  obtain ⟨⟨hx1, hx2, hx3⟩, hsz, hb1⟩ := three_new w (.cells #[xa0, xa1, xa2, xa3, xa4, xa5, xa6, xa7, xa8, xa9, xa10] 30) (.cells #[xo0, xo1, xo2, xo3, xo4, xo5, xo6, xo7, xo8, xo9, xo10] 30) (.cells #[.int .u8 (kf : Int), .slice Af nf cf] 48)
  go_enter Tryz.func6, Tryz.ntmps6
  go_upto_region 1 with (fail)
  generalize ((w.alloc (.cells #[xa0, xa1, xa2, xa3, xa4, xa5, xa6, xa7, xa8, xa9, xa10] 30)).alloc (.cells #[xo0, xo1, xo2, xo3, xo4, xo5, xo6, xo7, xo8, xo9, xo10] 30)).alloc (.cells #[.int .u8 (kf : Int), .slice Af nf cf] 48) = w1 at *
  have HX : Hid (∀ W, Below w1.heap.size w1 W → W.heap[w.heap.size]? = some (.cells #[xa0, xa1, xa2, xa3, xa4, xa5, xa6, xa7, xa8, xa9, xa10] 30 (0, 0)) ∧ W.heap[w.heap.size + 1]? = some (.cells #[xo0, xo1, xo2, xo3, xo4, xo5, xo6, xo7, xo8, xo9, xo10] 30 (0, 0)) ∧ W.heap[w.heap.size + 1 + 1]? = some (.cells #[.int .u8 (kf : Int), .slice Af nf cf] 48 (0, 0)) ∧ Below w.heap.size w W) := fun W hW => ⟨(hW.block _ (by omega)).trans hx1, (hW.block _ (by omega)).trans hx2, (hW.block _ (by omega)).trans hx3, hb1.trans (hW.mono (by omega))⟩
  clear hx1 hx2 hx3
  obtain ⟨c0, c1, c2, c3, c4, c5, c6, c7, c8, c9, c10⟩ := rec_cells (HX.out w1 (Below.refl _ _)).1
  go_wp2_with fail
  refine (FW.out w1 hb1).mono ?_
  rintro e w2 ⟨rfl, hb2⟩
  clear c0 c1 c2 c3 c4 c5 c6 c7 c8 c9 c10
  have hbw2 := hb1.trans (hb2.mono hb1.size)
  by_cases hfr : r.es.length ≤ 60 ∧ r.p.abs.count ≤ 60
  rotate_left
  · rw [decide_eq_false hfr]
    go_wp2_with fail
    refine (WK.out _ hbw2).mono ?_
    rintro e w9 ⟨rfl, hb9⟩
    go_wp2
    go_ret
    exact ⟨rfl, hbw2.trans (hb9.mono hbw2.size)⟩
  obtain ⟨c0, c1, c2, c3, c4, c5, c6, c7, c8, c9, c10⟩ := rec_cells (HX.out w2 hb2).2.1
  rw [decide_eq_true hfr]
  go_wp2_with fail
  refine (FO.out w2 hbw2).mono ?_
  rintro e w3 ⟨rfl, hb3⟩
  clear c0 c1 c2 c3 c4 c5 c6 c7 c8 c9 c10
  have hbw3 := hbw2.trans (hb3.mono hbw2.size)
  have hb13 := hb2.trans (hb3.mono hb2.size)
  clear hb2 hb3 hbw2 FW FO
  by_cases hfo : o.es.length ≤ 60 ∧ o.p.abs.count ≤ 60
  rotate_left
  · rw [decide_eq_false hfo]
    go_wp2_with fail
    refine (WK.out _ hbw3).mono ?_
    rintro e w9 ⟨rfl, hb9⟩
    go_wp2
    go_ret
    exact ⟨rfl, hbw3.trans (hb9.mono hbw3.size)⟩
  rw [decide_eq_true hfo]
  obtain ⟨p0, p1⟩ := two_cells (HX.out w3 hb13).2.2.1
  by_cases hnf : nf ≤ 400
  rotate_left
  · have q : (400 : Int) < (nf : Int) := by omega
    go_wp2_with fail
    refine (WK.out _ hbw3).mono ?_
    rintro e w9 ⟨rfl, hb9⟩
    go_wp2
    go_ret
    exact ⟨rfl, hbw3.trans (hb9.mono hbw3.size)⟩
  have q : ¬ (400 : Int) < (nf : Int) := by omega
  by_cases hss : s.length ≤ 300
  rotate_left
  · have q2 : (300 : Int) < (s.length : Int) := by omega
    go_wp2_with fail
    refine (WK.out _ hbw3).mono ?_
    rintro e w9 ⟨rfl, hb9⟩
    go_wp2
    go_ret
    exact ⟨rfl, hbw3.trans (hb9.mono hbw3.size)⟩
  have q2 : ¬ (300 : Int) < (s.length : Int) := by omega
  replace PPr := Lib_hid (PPr.out hfr.1)
  replace PPo := Lib_hid (PPo.out hfo.1)
  replace TXr := Lib_hid (TXr.out hfr)
  replace TXo := Lib_hid (TXo.out hfo)
  replace SMo := Lib_hid (SMo.out hfr.1 hfo.1)
  replace SMc := Lib_hid (SMc.out hfr.1)
  replace HPR := Lib_hid (HPR.out hfr.1)
  replace HBO := Lib_hid (HBO.out hfr.1 hfo.1)
  clear hfr hfo
  go_upto_region 3 with (fail)
  clear p0 p1
  obtain ⟨c0, c1, c2, c3, c4, c5, c6, c7, c8, c9, c10⟩ := rec_cells (HX.out w3 hb13).1
  go_wp2_with fail
  refine (PPr.out w3 hbw3).mono ?_
  rintro e w4 ⟨Ap, cp, rfl, hop, hb4⟩
  clear c0 c1 c2 c3 c4 c5 c6 c7 c8 c9 c10
  have hrp := Rd.own hop
  have hb14 := hb13.trans (hb4.mono hb13.size)
  generalize hkp : (frD ra).1 = kp at *
  generalize hlp : (frD ra).2 = lp at *
  generalize hzr : erD ra = zr at *
  have hp5 := heap_alloc_new w4 (.cells #[.int .u8 (kp : Int), .slice Ap lp.length cp] 48)
  have hb5n := below_new w4 (.cells #[.int .u8 (kp : Int), .slice Ap lp.length cp] 48)
  go_upto_region 4 with (fail)
  generalize w4.alloc (.cells #[.int .u8 (kp : Int), .slice Ap lp.length cp] 48) = w5 at *
  have hb15 := hb14.trans (hb5n.mono hb14.size)
  have hrp5 := (hrp.below hb5n).more hb5n.size
  have hbw5 := (HX.out w5 hb15).2.2.2
  clear hop hb4 hrp hb14 hb13 hb5n
  obtain ⟨c0, c1, c2, c3, c4, c5, c6, c7, c8, c9, c10⟩ := rec_cells (HX.out w5 hb15).2.1
  go_wp2_with fail
  refine (PPo.out w5 hbw5).mono ?_
  rintro e w6 ⟨Aq, cq, rfl, hoq, hb6⟩
  clear c0 c1 c2 c3 c4 c5 c6 c7 c8 c9 c10
  have hrq := Rd.own hoq
  have hb16 := hb15.trans (hb6.mono hb15.size)
  have hp6 := (hb6.block _ (lt_of_block hp5)).trans hp5
  have hrp6 := (hrp5.below hb6).more hb6.size
  generalize hkq : (frD oa).1 = kq at *
  generalize hlq : (frD oa).2 = lq at *
  generalize hzo : erD oa = zo at *
  have hq7 := heap_alloc_new w6 (.cells #[.int .u8 (kq : Int), .slice Aq lq.length cq] 48)
  have hb7n := below_new w6 (.cells #[.int .u8 (kq : Int), .slice Aq lq.length cq] 48)
  go_upto_if 55 with (fail)
  generalize w6.alloc (.cells #[.int .u8 (kq : Int), .slice Aq lq.length cq] 48) = w7 at *
  have hb17 := hb16.trans (hb7n.mono hb16.size)
  have hp7 := (hb7n.block _ (lt_of_block hp6)).trans hp6
  have hrp7 := (hrp6.below hb7n).more hb7n.size
  have hrq7 := (hrq.below hb7n).more hb7n.size
  have hs17 := hb17.size
  have hbp := lt_of_block hp7
  have hbq := lt_of_block hq7
  generalize w4.heap.size = bp at *
  generalize w6.heap.size = bq at *
  have HX7 : Hid (∀ W, Below w7.heap.size w7 W → W.heap[w.heap.size]? = some (.cells #[xa0, xa1, xa2, xa3, xa4, xa5, xa6, xa7, xa8, xa9, xa10] 30 (0, 0)) ∧ W.heap[w.heap.size + 1]? = some (.cells #[xo0, xo1, xo2, xo3, xo4, xo5, xo6, xo7, xo8, xo9, xo10] 30 (0, 0)) ∧ W.heap[w.heap.size + 1 + 1]? = some (.cells #[.int .u8 (kf : Int), .slice Af nf cf] 48 (0, 0)) ∧ Below w.heap.size w W ∧ W.heap[bp]? = some (.cells #[.int .u8 (kp : Int), .slice Ap lp.length cp] 48 (0, 0)) ∧ W.heap[bq]? = some (.cells #[.int .u8 (kq : Int), .slice Aq lq.length cq] 48 (0, 0)) ∧ Rd W W.heap.size 1 Ap lp.length (bs lp) ∧ Rd W W.heap.size 1 Aq lq.length (bs lq)) := fun W hW => by
    obtain ⟨k1, k2, k3, k4⟩ := HX.out W (hb17.trans (hW.mono hs17))
    exact ⟨k1, k2, k3, k4, (hW.block _ hbp).trans hp7, (hW.block _ hbq).trans hq7, (hrp7.below hW).more hW.size, (hrq7.below hW).more hW.size⟩
  clear HX hp5 hp6 hp7 hq7 hrp5 hrp6 hrp7 hrq hrq7 hb7n hb6 hoq hb15 hb16 hb17 hbw3 hbw5 hb1 PPr PPo hs17 hbp hbq
  go_cut [13] (fun _ W => Below w7.heap.size w7 W)
  case first =>
    by_cases hr : ra.rightB = true
    · obtain ⟨h1, h2, h3, h4, h5, h6⟩ := HPR.out hr
      have hzb : ((zr : Int) == 0) = true := by rw [h2]; rfl
      obtain ⟨-, -, -, hbw, hpb, -, hrp, -⟩ := HX7.out w7 (Below.refl _ _)
      obtain ⟨p0, p1⟩ := two_cells hpb
      have PA := parse5_any w7.heap.size kp Ap lp.length cp lp w7 h3 hrp HFB.out.1 h4 (Nat.le_refl _)
      rw [h1] at PA
      clear h1 h2 hpb hrp
      go_wp2_with fail
      refine PA.mono ?_
      rintro e w8 ⟨ux, rfl, hxa, hxL, -, hb8, -⟩
      clear p0 p1 PA
      have SMx : Hid (∀ W, Below w8.heap.size w8 W → Calls Tryz.prog 20 #[ux.val, .agg #[xa0, xa1, xa2, xa3, xa4, xa5, xa6, xa7, xa8, xa9, xa10]] W fun e w' => e = .returned (.bool true) ∧ Below W.heap.size W w') := fun W hW => SMc.out W ux _ w8.heap.size (HX7.out W (hb8.trans (hW.mono hb8.size))).2.2.2.1 hxa (hxL.under hW) hW.size
      obtain ⟨fk, ft, fx, fw, fn, fv, fpk, fpa, fpb, fA, fm, fc, fB, fq, fd, hyv⟩ := rv_form ux
      rw [hyv] at SMx ⊢
      clear hyv hxa hxL
      have hx9 := heap_alloc_new w8 (.cells #[.int .i64 fk, .int .u64 ft, .int .u64 fx, .int .u64 fw, .int .u64 fn, .int .u64 fv, .int .i64 fpk, .int .u64 fpa, .int .u64 fpb, .slice fA fm fc, .slice fB fq fd] 30)
      have hb9n := below_new w8 (.cells #[.int .i64 fk, .int .u64 ft, .int .u64 fx, .int .u64 fw, .int .u64 fn, .int .u64 fv, .int .i64 fpk, .int .u64 fpa, .int .u64 fpb, .slice fA fm fc, .slice fB fq fd] 30)
      go_upto_region 7 with (fail)
      generalize w8.alloc (.cells #[.int .i64 fk, .int .u64 ft, .int .u64 fx, .int .u64 fw, .int .u64 fn, .int .u64 fv, .int .i64 fpk, .int .u64 fpa, .int .u64 fpb, .slice fA fm fc, .slice fB fq fd] 30) = w9 at *
      generalize Value.int .i64 fk = y0 at *
      generalize Value.int .u64 ft = y1 at *
      generalize Value.int .u64 fx = y2 at *
      generalize Value.int .u64 fw = y3 at *
      generalize Value.int .u64 fn = y4 at *
      generalize Value.int .u64 fv = y5 at *
      generalize Value.int .i64 fpk = y6 at *
      generalize Value.int .u64 fpa = y7 at *
      generalize Value.int .u64 fpb = y8 at *
      generalize Value.slice fA fm fc = y9 at *
      generalize Value.slice fB fq fd = y10 at *
      have hb79 := hb8.trans (hb9n.mono hb8.size)
      obtain ⟨hrow, -, -, hbw9, -⟩ := HX7.out w9 hb79
      obtain ⟨c0, c1, c2, c3, c4, c5, c6, c7, c8, c9, c10⟩ := rec_cells hrow
      go_wp2_with fail
      refine (TXr.out w9 hbw9).mono ?_
      rintro e w10 ⟨rfl, hb10⟩
      clear c0 c1 c2 c3 c4 c5 c6 c7 c8 c9 c10
      have hb710 := hb79.trans (hb10.mono hb79.size)
      have LL := LN.out ra.text h6 w10 (HX7.out w10 hb710).2.2.2.1
      rw [h5] at LL
      go_wp2_with fail
      refine LL.mono ?_
      rintro e w11 ⟨uy, rfl, hya, hyL, -, -, hb11⟩
      have hb711 := hb710.trans (hb11.mono hb710.size)
      have hb811 := hb9n.trans (((hb10.trans (hb11.mono hb10.size))).mono hb9n.size)
      have hx11 := ((hb10.trans (hb11.mono hb10.size)).block _ (lt_of_block hx9)).trans hx9
      have SMy : Hid (∀ W, Below w11.heap.size w11 W → Calls Tryz.prog 20 #[uy.val, .agg #[xa0, xa1, xa2, xa3, xa4, xa5, xa6, xa7, xa8, xa9, xa10]] W fun e w' => e = .returned (.bool true) ∧ Below W.heap.size W w') := fun W hW => SMc.out W uy _ w11.heap.size (HX7.out W (hb711.trans (hW.mono hb711.size))).2.2.2.1 hya (hyL.under hW) hW.size
      obtain ⟨hk, ht, hx, hw, hn, hv, hpk, hpa, hpb, hA, hm, hc, hB, hq, hd, hvv⟩ := rv_form uy
      rw [hvv] at SMy ⊢
      clear hvv hya hyL LL h5 h6 h3 h4 hb10 hb11 hx9 hb79 hb710 hb9n hb8 hrow hbw9
      have hy12 := heap_alloc_new w11 (.cells #[.int .i64 hk, .int .u64 ht, .int .u64 hx, .int .u64 hw, .int .u64 hn, .int .u64 hv, .int .i64 hpk, .int .u64 hpa, .int .u64 hpb, .slice hA hm hc, .slice hB hq hd] 30)
      have hb12n := below_new w11 (.cells #[.int .i64 hk, .int .u64 ht, .int .u64 hx, .int .u64 hw, .int .u64 hn, .int .u64 hv, .int .i64 hpk, .int .u64 hpa, .int .u64 hpb, .slice hA hm hc, .slice hB hq hd] 30)
      go_upto_region 8 with (fail)
      generalize w11.alloc (.cells #[.int .i64 hk, .int .u64 ht, .int .u64 hx, .int .u64 hw, .int .u64 hn, .int .u64 hv, .int .i64 hpk, .int .u64 hpa, .int .u64 hpb, .slice hA hm hc, .slice hB hq hd] 30) = w12 at *
      generalize Value.int .i64 hk = v0 at *
      generalize Value.int .u64 ht = v1 at *
      generalize Value.int .u64 hx = v2 at *
      generalize Value.int .u64 hw = v3 at *
      generalize Value.int .u64 hn = v4 at *
      generalize Value.int .u64 hv = v5 at *
      generalize Value.int .i64 hpk = v6 at *
      generalize Value.int .u64 hpa = v7 at *
      generalize Value.int .u64 hpb = v8 at *
      generalize Value.slice hA hm hc = v9 at *
      generalize Value.slice hB hq hd = v10 at *
      have hx12 := (hb12n.block _ (lt_of_block hx11)).trans hx11
      have hb712 := hb711.trans (hb12n.mono hb711.size)
      have hb812 := hb811.trans (hb12n.mono hb811.size)
      obtain ⟨c0, c1, c2, c3, c4, c5, c6, c7, c8, c9, c10⟩ := rec_cells hx12
      obtain ⟨hrow, -⟩ := HX7.out w12 hb712
      obtain ⟨d0, d1, d2, d3, d4, d5, d6, d7, d8, d9, d10⟩ := rec_cells hrow
      go_wp2_with fail
      refine (SMx.out w12 hb812).mono ?_
      rintro e w13 ⟨rfl, hb13⟩
      clear c0 c1 c2 c3 c4 c5 c6 c7 c8 c9 c10 d0 d1 d2 d3 d4 d5 d6 d7 d8 d9 d10
      have hy13 := (hb13.block _ (lt_of_block hy12)).trans hy12
      have hb713 := hb712.trans (hb13.mono hb712.size)
      have hb1113 := hb12n.trans (hb13.mono hb12n.size)
      obtain ⟨c0, c1, c2, c3, c4, c5, c6, c7, c8, c9, c10⟩ := rec_cells hy13
      obtain ⟨hrow2, -⟩ := HX7.out w13 hb713
      obtain ⟨d0, d1, d2, d3, d4, d5, d6, d7, d8, d9, d10⟩ := rec_cells hrow2
      go_wp2_with fail
      refine (SMy.out w13 hb1113).mono ?_
      rintro e w14 ⟨rfl, hb14⟩
      clear c0 c1 c2 c3 c4 c5 c6 c7 c8 c9 c10 d0 d1 d2 d3 d4 d5 d6 d7 d8 d9 d10
      go_wp2_with fail
      go_meet
      exact hb713.trans (hb14.mono hb713.size)
    · have hz50 : zr = 50 := HPN.out.1 (by simpa using hr)
      have hzb : ((zr : Int) == 0) = false := by rw [hz50]; rfl
      go_wp2_with fail
      go_meet
      exact Below.refl _ _
  case rest =>
  have HX8 : Hid (∀ W, Below wc.heap.size wc W → W.heap[w.heap.size]? = some (.cells #[xa0, xa1, xa2, xa3, xa4, xa5, xa6, xa7, xa8, xa9, xa10] 30 (0, 0)) ∧ W.heap[w.heap.size + 1]? = some (.cells #[xo0, xo1, xo2, xo3, xo4, xo5, xo6, xo7, xo8, xo9, xo10] 30 (0, 0)) ∧ W.heap[w.heap.size + 1 + 1]? = some (.cells #[.int .u8 (kf : Int), .slice Af nf cf] 48 (0, 0)) ∧ Below w.heap.size w W ∧ W.heap[bp]? = some (.cells #[.int .u8 (kp : Int), .slice Ap lp.length cp] 48 (0, 0)) ∧ W.heap[bq]? = some (.cells #[.int .u8 (kq : Int), .slice Aq lq.length cq] 48 (0, 0)) ∧ Rd W W.heap.size 1 Ap lp.length (bs lp) ∧ Rd W W.heap.size 1 Aq lq.length (bs lq)) := fun W hW => HX7.out W (hcut.trans (hW.mono hcut.size))
  clear HX7 HPR SMc
  have HCUT := Lib_hid hcut
  clear hcut
  go_upto_region 10 with (fail)
  go_cut [90] (fun v W => v = .bool (decide (zr = 0 ∧ zo = 0)) ∧ W = wc)
  case first =>
    by_cases z1 : zr = 0
    · by_cases z2 : zo = 0
      · have z3 : ((zr : Int) == 0) = true := by simp [z1]
        have z4 : ((zo : Int) == 0) = true := by simp [z2]
        go_wp2_with fail
        go_meet
        exact ⟨by simp [z1, z2], rfl⟩
      · have z3 : ((zr : Int) == 0) = true := by simp [z1]
        have z4 : ((zo : Int) == 0) = false := by simp [z2]
        go_wp2_with fail
        go_meet
        exact ⟨by simp [z1, z2], rfl⟩
    · have z3 : ((zr : Int) == 0) = false := by simp [z1]
      go_wp2_with fail
      go_meet
      exact ⟨by simp [z1], rfl⟩
  case rest =>
  obtain ⟨rfl, rfl⟩ := hcut
  generalize hbo : decide (zr = 0 ∧ zo = 0) = zb at *
  go_upto_if 90 with (fail)
  go_cut [17] (fun _ W => Below wc.heap.size wc W)
  case first =>
    cases zb with
    | false =>
      go_wp2_with fail
      go_meet
      exact Below.refl _ _
    | true =>
      have hzz : zr = 0 ∧ zo = 0 := of_decide_eq_true hbo
      have hr : ra.rightB = true := by
        cases hh : ra.rightB with
        | true => rfl
        | false => have := HPN.out.1 hh; omega
      have ho : oa.rightB = true := by
        cases hh : oa.rightB with
        | true => rfl
        | false => have := HPN.out.2.1 hh; omega
      obtain ⟨hq1, hq2⟩ := HBO.out hr ho
      generalize ra.sameB oa = sv at *
      have FSM : Hid (∀ W, Below wc.heap.size wc W → Calls Tryz.prog 33 #[.agg #[.int .u8 (kp : Int), .slice Ap lp.length cp], .agg #[.int .u8 (kq : Int), .slice Aq lq.length cq]] W fun e w' => e = .returned (.bool sv) ∧ Below W.heap.size W w') := fun W hW => by
        obtain ⟨-, -, -, -, -, -, hrp, hrq⟩ := HX8.out W hW
        have h := fsame_any W.heap.size W.heap.size kp kq Ap Aq lp.length lq.length cp cq lp lq W hrp hrq HFB.out.1 HFB.out.2 (Nat.le_refl _) (Nat.le_refl _)
        rw [hq1] at h
        exact h
      have hs1 : decide ((⟨ra.text.toArray⟩ : ByteArray) = ⟨oa.text.toArray⟩) = sv := by rw [← hq2, Bool.eq_iff_iff, decide_eq_true_iff, decide_eq_true_iff]; simp
      have hs2 : ((⟨ra.text.toArray⟩ : ByteArray).toList == (⟨oa.text.toArray⟩ : ByteArray).toList) = sv := by rw [bytes_list, bytes_list, ← hq2, Bool.eq_iff_iff, beq_iff_eq, decide_eq_true_iff]
      generalize (⟨ra.text.toArray⟩ : ByteArray) = sr at *
      generalize (⟨oa.text.toArray⟩ : ByteArray) = so at *
      obtain ⟨hrow, hrow2, -, hbw, -⟩ := HX8.out wc (Below.refl _ _)
      obtain ⟨c0, c1, c2, c3, c4, c5, c6, c7, c8, c9, c10⟩ := rec_cells hrow
      obtain ⟨d0, d1, d2, d3, d4, d5, d6, d7, d8, d9, d10⟩ := rec_cells hrow2
      go_wp2_with fail
      refine (SMo.out wc hbw).mono ?_
      rintro e wd ⟨rfl, hbd⟩
      have HXD : Hid (∀ W, Below wd.heap.size wd W → Below wc.heap.size wc W ∧ (W.heap[w.heap.size]? = some (.cells #[xa0, xa1, xa2, xa3, xa4, xa5, xa6, xa7, xa8, xa9, xa10] 30 (0, 0)) ∧ W.heap[w.heap.size + 1]? = some (.cells #[xo0, xo1, xo2, xo3, xo4, xo5, xo6, xo7, xo8, xo9, xo10] 30 (0, 0)) ∧ W.heap[w.heap.size + 1 + 1]? = some (.cells #[.int .u8 (kf : Int), .slice Af nf cf] 48 (0, 0)) ∧ Below w.heap.size w W ∧ W.heap[bp]? = some (.cells #[.int .u8 (kp : Int), .slice Ap lp.length cp] 48 (0, 0)) ∧ W.heap[bq]? = some (.cells #[.int .u8 (kq : Int), .slice Aq lq.length cq] 48 (0, 0)) ∧ Rd W W.heap.size 1 Ap lp.length (bs lp) ∧ Rd W W.heap.size 1 Aq lq.length (bs lq))) := fun W hW => ⟨hbd.trans (hW.mono hbd.size), HX8.out W (hbd.trans (hW.mono hbd.size))⟩
      clear c0 c1 c2 c3 c4 c5 c6 c7 c8 c9 c10 d0 d1 d2 d3 d4 d5 d6 d7 d8 d9 d10 hrow hrow2 hbw hq1 hq2 hr ho hzz hbo HX8 HPN SMo HBO
      go_upto_region 12 with (fail)
      refine wp_region_midG (N := 153) (fun i v ww => ([fun v ww => v = (.agg #[.int .u8 (kp : Int), .slice Ap lp.length cp]), fun v ww => v = (.agg #[.int .u8 (kq : Int), .slice Aq lq.length cq]), fun v ww => v = (.bool sv), fun v ww => v = (.bool sv), fun v ww => v = (.bool false), fun v ww => v = (.bool false), fun v ww => v = (.agg #[xa0, xa1, xa2, xa3, xa4, xa5, xa6, xa7, xa8, xa9, xa10]), fun v ww => v = (.string sr), fun v ww => v = (.agg #[xo0, xo1, xo2, xo3, xo4, xo5, xo6, xo7, xo8, xo9, xo10]), fun v ww => v = (.string so), fun v ww => v = (.bool sv), fun v ww => v = (.bool sv), fun v ww => v = (.bool false), fun v ww => v = (.bool false)] : List (Value → World → Prop)).getD i (fun _ _ => True) v ww) (by kernel_rfl) (by kernel_rfl) rfl ?_ ?_ ?_
      · intro i v wa wb h0 hb hp
        by_cases hi : i < 14
        · have hcase : i = 0 ∨ i = 1 ∨ i = 2 ∨ i = 3 ∨ i = 4 ∨ i = 5 ∨ i = 6 ∨ i = 7 ∨ i = 8 ∨ i = 9 ∨ i = 10 ∨ i = 11 ∨ i = 12 ∨ i = 13 := by omega
          rcases hcase with rfl | rfl | rfl | rfl | rfl | rfl | rfl | rfl | rfl | rfl | rfl | rfl | rfl | rfl
          · exact hp
          · exact hp
          · exact hp
          · exact hp
          · exact hp
          · exact hp
          · exact hp
          · exact hp
          · exact hp
          · exact hp
          · exact hp
          · exact hp
          · exact hp
          · exact hp
        · have hnn : ([fun v ww => v = (.agg #[.int .u8 (kp : Int), .slice Ap lp.length cp]), fun v ww => v = (.agg #[.int .u8 (kq : Int), .slice Aq lq.length cq]), fun v ww => v = (.bool sv), fun v ww => v = (.bool sv), fun v ww => v = (.bool false), fun v ww => v = (.bool false), fun v ww => v = (.agg #[xa0, xa1, xa2, xa3, xa4, xa5, xa6, xa7, xa8, xa9, xa10]), fun v ww => v = (.string sr), fun v ww => v = (.agg #[xo0, xo1, xo2, xo3, xo4, xo5, xo6, xo7, xo8, xo9, xo10]), fun v ww => v = (.string so), fun v ww => v = (.bool sv), fun v ww => v = (.bool sv), fun v ww => v = (.bool false), fun v ww => v = (.bool false)] : List (Value → World → Prop))[i]? = none := List.getElem?_eq_none (by simpa using hi)
          rw [List.getD_eq_getElem?_getD, hnn]
          trivial
      · intro i o a wx hi hM hD
        have hi8 : i < 14 := (Array.getElem?_eq_some_iff.1 hi).1
        have hcase : i = 0 ∨ i = 1 ∨ i = 2 ∨ i = 3 ∨ i = 4 ∨ i = 5 ∨ i = 6 ∨ i = 7 ∨ i = 8 ∨ i = 9 ∨ i = 10 ∨ i = 11 ∨ i = 12 ∨ i = 13 := by omega
        clear hi8
        rcases hcase with rfl | rfl | rfl | rfl | rfl | rfl | rfl | rfl | rfl | rfl | rfl | rfl | rfl | rfl
        · obtain rfl := Option.some.inj hi
          have e9 : a.tmps.getD 9 undef = (.pointer (some ⟨bp, 0, none⟩)) := (hM.other 9 (by decide +kernel)).trans rfl
          obtain ⟨p0, p1⟩ := two_cells (HXD.out wx hM.below).2.2.2.2.2.1
          refine .inl ⟨rfl, mid_step ((.agg #[.int .u8 (kp : Int), .slice Ap lp.length cp])) wx (fun K hK => ?_) ⟨_, rfl, rfl, Below.refl _ _⟩⟩
          go_simp
          first | exact hK | simpa using hK | simpa [*] using hK
        · obtain rfl := Option.some.inj hi
          have e11 : a.tmps.getD 11 undef = (.pointer (some ⟨bq, 0, none⟩)) := (hM.other 11 (by decide +kernel)).trans rfl
          obtain ⟨p0, p1⟩ := two_cells (HXD.out wx hM.below).2.2.2.2.2.2.1
          refine .inl ⟨rfl, mid_step ((.agg #[.int .u8 (kq : Int), .slice Aq lq.length cq])) wx (fun K hK => ?_) ⟨_, rfl, rfl, Below.refl _ _⟩⟩
          go_simp
          first | exact hK | simpa using hK | simpa [*] using hK
        · obtain rfl := Option.some.inj hi
          have e94 : a.tmps.getD 94 undef = (.agg #[.int .u8 (kp : Int), .slice Ap lp.length cp]) := hD 0 (by kernel_rfl) _ 94 rfl rfl
          have e95 : a.tmps.getD 95 undef = (.agg #[.int .u8 (kq : Int), .slice Aq lq.length cq]) := hD 1 (by kernel_rfl) _ 95 rfl rfl
          have K9 := (HXD.out wx hM.below).1
          refine .inl ⟨rfl, mid_call (fun v w' => v = (.bool sv) ∧ Below wx.heap.size wx w') (fun K hK => ?_) (fun v w' h => ⟨v, rfl, h.1, h.2⟩)⟩
          go_simp
          refine (FSM.out wx K9).mono ?_
          rintro e w' ⟨rfl, hb'⟩
          exact hK _ _ ⟨rfl, hb'⟩
        · obtain rfl := Option.some.inj hi
          have e17 : a.tmps.getD 17 undef = (.bool sv) := (hM.other 17 (by decide +kernel)).trans rfl
          refine .inl ⟨rfl, mid_step ((.bool sv)) wx (fun K hK => ?_) ⟨_, rfl, rfl, Below.refl _ _⟩⟩
          go_simp
          first | exact hK | simpa using hK | simpa [*] using hK
        · obtain rfl := Option.some.inj hi
          have e96 : a.tmps.getD 96 undef = (.bool sv) := hD 2 (by kernel_rfl) _ 96 rfl rfl
          have e97 : a.tmps.getD 97 undef = (.bool sv) := hD 3 (by kernel_rfl) _ 97 rfl rfl
          refine .inl ⟨rfl, mid_step ((.bool false)) wx (fun K hK => ?_) ⟨_, rfl, rfl, Below.refl _ _⟩⟩
          go_simp
          first | exact hK | simpa using hK | simpa [*] using hK
        · obtain rfl := Option.some.inj hi
          have e98 : a.tmps.getD 98 undef = (.bool false) := hD 4 (by kernel_rfl) _ 98 rfl rfl
          refine .inl ⟨rfl, mid_step ((.bool false)) wx (fun K hK => ?_) ⟨_, rfl, rfl, Below.refl _ _⟩⟩
          go_simp
          first | exact hK | simpa using hK | simpa [*] using hK
        · obtain rfl := Option.some.inj hi
          have e4 : a.tmps.getD 4 undef = (.pointer (some ⟨w.heap.size, 0, none⟩)) := (hM.other 4 (by decide +kernel)).trans rfl
          obtain ⟨c0, c1, c2, c3, c4, c5, c6, c7, c8, c9, c10⟩ := rec_cells (HXD.out wx hM.below).2.1
          refine .inl ⟨wanted_yes 5 99 rfl rfl rfl (hD 5 (by kernel_rfl) _ 99 rfl rfl), mid_step ((.agg #[xa0, xa1, xa2, xa3, xa4, xa5, xa6, xa7, xa8, xa9, xa10])) wx (fun K hK => ?_) ⟨_, rfl, rfl, Below.refl _ _⟩⟩
          go_simp
          first | exact hK | simpa using hK | simpa [*] using hK
        · obtain rfl := Option.some.inj hi
          have e100 : a.tmps.getD 100 undef = (.agg #[xa0, xa1, xa2, xa3, xa4, xa5, xa6, xa7, xa8, xa9, xa10]) := hD 6 (by kernel_rfl) _ 100 rfl rfl
          have K9 := (HXD.out wx hM.below).2.2.2.2.1
          refine .inl ⟨wanted_yes 5 99 rfl rfl rfl (hD 5 (by kernel_rfl) _ 99 rfl rfl), mid_call (fun v w' => v = (.string sr) ∧ Below wx.heap.size wx w') (fun K hK => ?_) (fun v w' h => ⟨v, rfl, h.1, h.2⟩)⟩
          go_simp
          refine (TXr.out wx K9).mono ?_
          rintro e w' ⟨rfl, hb'⟩
          exact hK _ _ ⟨rfl, hb'⟩
        · obtain rfl := Option.some.inj hi
          have e5 : a.tmps.getD 5 undef = (.pointer (some ⟨w.heap.size + 1, 0, none⟩)) := (hM.other 5 (by decide +kernel)).trans rfl
          obtain ⟨c0, c1, c2, c3, c4, c5, c6, c7, c8, c9, c10⟩ := rec_cells (HXD.out wx hM.below).2.2.1
          refine .inl ⟨wanted_yes 5 99 rfl rfl rfl (hD 5 (by kernel_rfl) _ 99 rfl rfl), mid_step ((.agg #[xo0, xo1, xo2, xo3, xo4, xo5, xo6, xo7, xo8, xo9, xo10])) wx (fun K hK => ?_) ⟨_, rfl, rfl, Below.refl _ _⟩⟩
          go_simp
          first | exact hK | simpa using hK | simpa [*] using hK
        · obtain rfl := Option.some.inj hi
          have e102 : a.tmps.getD 102 undef = (.agg #[xo0, xo1, xo2, xo3, xo4, xo5, xo6, xo7, xo8, xo9, xo10]) := hD 8 (by kernel_rfl) _ 102 rfl rfl
          have K9 := (HXD.out wx hM.below).2.2.2.2.1
          refine .inl ⟨wanted_yes 5 99 rfl rfl rfl (hD 5 (by kernel_rfl) _ 99 rfl rfl), mid_call (fun v w' => v = (.string so) ∧ Below wx.heap.size wx w') (fun K hK => ?_) (fun v w' h => ⟨v, rfl, h.1, h.2⟩)⟩
          go_simp
          refine (TXo.out wx K9).mono ?_
          rintro e w' ⟨rfl, hb'⟩
          exact hK _ _ ⟨rfl, hb'⟩
        · obtain rfl := Option.some.inj hi
          have e101 : a.tmps.getD 101 undef = (.string sr) := hD 7 (by kernel_rfl) _ 101 rfl rfl
          have e103 : a.tmps.getD 103 undef = (.string so) := hD 9 (by kernel_rfl) _ 103 rfl rfl
          refine .inl ⟨wanted_yes 5 99 rfl rfl rfl (hD 5 (by kernel_rfl) _ 99 rfl rfl), mid_step ((.bool sv)) wx (fun K hK => ?_) ⟨_, rfl, rfl, Below.refl _ _⟩⟩
          go_simp
          first | exact hK | simpa using hK | simpa [*] using hK
        · obtain rfl := Option.some.inj hi
          have e17 : a.tmps.getD 17 undef = (.bool sv) := (hM.other 17 (by decide +kernel)).trans rfl
          refine .inl ⟨wanted_yes 5 99 rfl rfl rfl (hD 5 (by kernel_rfl) _ 99 rfl rfl), mid_step ((.bool sv)) wx (fun K hK => ?_) ⟨_, rfl, rfl, Below.refl _ _⟩⟩
          go_simp
          first | exact hK | simpa using hK | simpa [*] using hK
        · obtain rfl := Option.some.inj hi
          have e104 : a.tmps.getD 104 undef = (.bool sv) := hD 10 (by kernel_rfl) _ 104 rfl rfl
          have e105 : a.tmps.getD 105 undef = (.bool sv) := hD 11 (by kernel_rfl) _ 105 rfl rfl
          refine .inl ⟨wanted_yes 5 99 rfl rfl rfl (hD 5 (by kernel_rfl) _ 99 rfl rfl), mid_step ((.bool false)) wx (fun K hK => ?_) ⟨_, rfl, rfl, Below.refl _ _⟩⟩
          go_simp
          first | exact hK | simpa using hK | simpa [*] using hK
        · obtain rfl := Option.some.inj hi
          have e99 : a.tmps.getD 99 undef = (.bool false) := hD 5 (by kernel_rfl) _ 99 rfl rfl
          have e106 : a.tmps.getD 106 undef = (.bool false) := hD 12 (by kernel_rfl) _ 106 rfl rfl
          refine .inl ⟨rfl, mid_step ((.bool false)) wx (fun K hK => ?_) ⟨_, rfl, rfl, Below.refl _ _⟩⟩
          go_simp
          first | exact hK | simpa using hK | simpa [*] using hK
      · intro a wx hM hD
        have q0 := hD 0 (by decide) _ 94 rfl rfl
        have q1 := hD 1 (by decide) _ 95 rfl rfl
        have q2 := hD 2 (by decide) _ 96 rfl rfl
        have q3 := hD 3 (by decide) _ 97 rfl rfl
        have q4 := hD 4 (by decide) _ 98 rfl rfl
        have q5 := hD 5 (by decide) _ 99 rfl rfl
        have q6 := hD 6 (by decide) _ 100 rfl rfl
        have q7 := hD 7 (by decide) _ 101 rfl rfl
        have q8 := hD 8 (by decide) _ 102 rfl rfl
        have q9 := hD 9 (by decide) _ 103 rfl rfl
        have q10 := hD 10 (by decide) _ 104 rfl rfl
        have q11 := hD 11 (by decide) _ 105 rfl rfl
        have q12 := hD 12 (by decide) _ 106 rfl rfl
        have q13 := hD 13 (by decide) _ 107 rfl rfl
        have hact := act_puts (a := a) [(94, (.agg #[.int .u8 (kp : Int), .slice Ap lp.length cp])), (95, (.agg #[.int .u8 (kq : Int), .slice Aq lq.length cq])), (96, (.bool sv)), (97, (.bool sv)), (98, (.bool false)), (99, (.bool false)), (100, (.agg #[xa0, xa1, xa2, xa3, xa4, xa5, xa6, xa7, xa8, xa9, xa10])), (101, (.string sr)), (102, (.agg #[xo0, xo1, xo2, xo3, xo4, xo5, xo6, xo7, xo8, xo9, xo10])), (103, (.string so)), (104, (.bool sv)), (105, (.bool sv)), (106, (.bool false)), (107, (.bool false))] _ hM.tmps hM.defers (by
          intro s v hm
          simp only [List.mem_cons, Prod.mk.injEq, List.not_mem_nil, or_false] at hm
          rcases hm with ⟨rfl, rfl⟩ | ⟨rfl, rfl⟩ | ⟨rfl, rfl⟩ | ⟨rfl, rfl⟩ | ⟨rfl, rfl⟩ | ⟨rfl, rfl⟩ | ⟨rfl, rfl⟩ | ⟨rfl, rfl⟩ | ⟨rfl, rfl⟩ | ⟨rfl, rfl⟩ | ⟨rfl, rfl⟩ | ⟨rfl, rfl⟩ | ⟨rfl, rfl⟩ | ⟨rfl, rfl⟩
          · exact ⟨(by show 94 < 153; decide), q0⟩
          · exact ⟨(by show 95 < 153; decide), q1⟩
          · exact ⟨(by show 96 < 153; decide), q2⟩
          · exact ⟨(by show 97 < 153; decide), q3⟩
          · exact ⟨(by show 98 < 153; decide), q4⟩
          · exact ⟨(by show 99 < 153; decide), q5⟩
          · exact ⟨(by show 100 < 153; decide), q6⟩
          · exact ⟨(by show 101 < 153; decide), q7⟩
          · exact ⟨(by show 102 < 153; decide), q8⟩
          · exact ⟨(by show 103 < 153; decide), q9⟩
          · exact ⟨(by show 104 < 153; decide), q10⟩
          · exact ⟨(by show 105 < 153; decide), q11⟩
          · exact ⟨(by show 106 < 153; decide), q12⟩
          · exact ⟨(by show 107 < 153; decide), q13⟩) (fun s hs => hM.other s (by exact hs))
        rw [hact]
        have hBX := hM.below
        clear hact hD hM q0 q1 q2 q3 q4 q5 q6 q7 q8 q9 q10 q11 q12 q13
        simp only [List.foldl, Act.put, List.setIfInBounds_toArray, List.set_cons_succ, List.set_cons_zero]
        have HBZ := (HXD.out wx hBX).1
        clear hBX HXD
        go_wp2_with fail
        go_meet
        exact HBZ
  case rest =>
  have HXE : Hid (∀ W, Below wc.heap.size wc W → W.heap[w.heap.size + 1 + 1]? = some (.cells #[.int .u8 (kf : Int), .slice Af nf cf] 48 (0, 0)) ∧ Below w.heap.size w W) := fun W hW => by
    obtain ⟨-, -, k3, k4, -⟩ := HX8.out W (hcut.trans (hW.mono hcut.size))
    exact ⟨k3, k4⟩
  clear HX8 hcut HPN HBO SMo TXr TXo hbo HFB hkp hlp hzr hkq hlq hzo HCUT
  obtain ⟨wb, hwb⟩ : ∃ x, x = wc := ⟨_, rfl⟩
  subst hwb
  obtain ⟨hrow, hbw⟩ := HXE.out wb (Below.refl _ _)
  obtain ⟨p0, p1⟩ := two_cells hrow
  have PA := parse5_any wb.heap.size kf Af nf cf lf wb hkf (HRF.out wb hbw) HBF.out (by omega) (Nat.le_refl _)
  obtain ⟨⟨xr, z⟩, hxz⟩ : ∃ x, ansP kf lf = x := ⟨_, rfl⟩
  rw [hxz] at PA
  go_wp2_with fail
  refine PA.mono ?_
  rintro e wp ⟨ux, rfl, hxa, hxL, -, hbp2, -⟩
  replace hxa : ux.abs = xr := hxa
  have hfl : lf.length ≤ 400 := by have := HNL.out; omega
  have PX : Hid (z = 0 → (frD xr = (kf, lf) ∧ erD xr = 0 ∧ xr.rightB = true) ∧ ∀ W, Below wp.heap.size wp W → Calls Tryz.prog 12 #[ux.val] W (PutU xr W)) := fun hz => by
    obtain ⟨k1, k2, k3, k4⟩ := parse_back HBF.out hxz hz
    refine ⟨⟨k2, k3, k1⟩, fun W hW => ?_⟩
    have hle : ux.es = xr.es := congrArg Rc.es hxa
    rw [← hxa]
    exact (rput5_any ux W _ wp.heap.size (hxL.under hW) hW.size (by rw [hle]; omega)).mono fun e w' h => putU h
  have RX : Hid (∀ W, Below wp.heap.size wp W → Calls Tryz.prog 16 #[ux.val] W fun e w' => e = .returned (.bool xr.rightB) ∧ Below W.heap.size W w') := fun W hW => by
    rw [← hxa]
    exact right5_any ux W _ wp.heap.size (hxL.under hW) hW.size
  obtain ⟨fk, ft, fx, fw, fn, fv, fpk, fpa, fpb, fA, fm, fc, fB, fq, fd, hyv⟩ := rv_form ux
  rw [hyv] at PX RX ⊢
  clear hyv hxa hxL PA p0 p1 hrow hxz
  have hx9 := heap_alloc_new wp (.cells #[.int .i64 fk, .int .u64 ft, .int .u64 fx, .int .u64 fw, .int .u64 fn, .int .u64 fv, .int .i64 fpk, .int .u64 fpa, .int .u64 fpb, .slice fA fm fc, .slice fB fq fd] 30)
  have hb9n := below_new wp (.cells #[.int .i64 fk, .int .u64 ft, .int .u64 fx, .int .u64 fw, .int .u64 fn, .int .u64 fv, .int .i64 fpk, .int .u64 fpa, .int .u64 fpb, .slice fA fm fc, .slice fB fq fd] 30)
  go_upto_if 114 with (fail)
  generalize wp.alloc (.cells #[.int .i64 fk, .int .u64 ft, .int .u64 fx, .int .u64 fw, .int .u64 fn, .int .u64 fv, .int .i64 fpk, .int .u64 fpa, .int .u64 fpb, .slice fA fm fc, .slice fB fq fd] 30) = wx at *
  generalize Value.int .i64 fk = y0 at *
  generalize Value.int .u64 ft = y1 at *
  generalize Value.int .u64 fx = y2 at *
  generalize Value.int .u64 fw = y3 at *
  generalize Value.int .u64 fn = y4 at *
  generalize Value.int .u64 fv = y5 at *
  generalize Value.int .i64 fpk = y6 at *
  generalize Value.int .u64 fpa = y7 at *
  generalize Value.int .u64 fpb = y8 at *
  generalize Value.slice fA fm fc = y9 at *
  generalize Value.slice fB fq fd = y10 at *
  have hbx := hbp2.trans (hb9n.mono hbp2.size)
  clear hbp2
  go_cut [20] (fun _ W => Below wx.heap.size wx W)
  case first =>
    by_cases hz : z = 0
    · have hzb : ((z : Int) == 0) = true := by simp [hz]
      obtain ⟨⟨hk1, hk2, hk3⟩, PY⟩ := PX.out hz
      clear hz
      obtain ⟨c0, c1, c2, c3, c4, c5, c6, c7, c8, c9, c10⟩ := rec_cells hx9
      go_wp2_with fail
      refine (PY wx hb9n).mono ?_
      rintro e wy ⟨Ay, cy, rfl, hoy, hby⟩
      clear c0 c1 c2 c3 c4 c5 c6 c7 c8 c9 c10 PY PX
      rw [hk1, hk2] at *
      simp only at hoy ⊢
      have hy1 := heap_alloc_new wy (.cells #[.int .u8 (kf : Int), .slice Ay lf.length cy] 48)
      have hby1 := below_new wy (.cells #[.int .u8 (kf : Int), .slice Ay lf.length cy] 48)
      have hry := ((Rd.own hoy).below hby1).more hby1.size
      go_upto_region 17 with (fail)
      generalize wy.alloc (.cells #[.int .u8 (kf : Int), .slice Ay lf.length cy] 48) = wv at *
      have hbxv := hby.trans (hby1.mono hby.size)
      have hbv := hbx.trans (hbxv.mono hbx.size)
      obtain ⟨hrow, hbwv⟩ := HXE.out wv hbv
      obtain ⟨p0, p1⟩ := two_cells hrow
      obtain ⟨g0, g1⟩ := two_cells hy1
      have SF := fsame_any wv.heap.size wv.heap.size kf kf Ay Af lf.length nf cy cf lf lf wv hry (HRF.out wv hbwv) HBF.out HBF.out (Nat.le_refl _) (Nat.le_refl _)
      rw [sameF_eq.2 rfl] at SF
      clear hoy hby1 hby
      go_wp2_with fail
      refine SF.mono ?_
      rintro e wu ⟨rfl, hbu⟩
      clear p0 p1 g0 g1 SF hry hrow
      have hbxu := hbxv.trans (hbu.mono hbxv.size)
      obtain ⟨c0, c1, c2, c3, c4, c5, c6, c7, c8, c9, c10⟩ := rec_cells ((hbxu.block _ (lt_of_block hx9)).trans hx9)
      have RXX := RX.out wu (hb9n.trans (hbxu.mono hb9n.size))
      rw [hk3] at RXX
      go_wp2_with fail
      refine RXX.mono ?_
      rintro e wt ⟨rfl, hbt⟩
      clear c0 c1 c2 c3 c4 c5 c6 c7 c8 c9 c10 RXX
      go_wp2_with fail
      go_meet
      exact hbxu.trans (hbt.mono hbxu.size)
    · have hzb : ((z : Int) == 0) = false := by simp [hz]
      go_wp2_with fail
      go_meet
      exact Below.refl _ _
  case rest =>
  have hbc := (HXE.out wc (hbx.trans (hcut.mono hbx.size))).2
  clear HXE hbx hcut PX RX HRF HBF HNL hx9 hb9n
  have LL := LN.out s (by omega) wc hbc
  obtain ⟨⟨yr, hh⟩, hyh⟩ : ∃ x, ansR (lineB s) = x := ⟨_, rfl⟩
  rw [hyh] at LL
  go_wp2_with fail
  refine LL.mono ?_
  rintro e wl ⟨uy, rfl, hya, hyL, -, -, hbl⟩
  replace hya : uy.abs = yr := hya
  have hbwl := hbc.trans (hbl.mono hbc.size)
  have TY : Hid (hh = 0 → ∀ W, Below wl.heap.size wl W → (Calls Tryz.prog 14 #[uy.val] W fun e w' => e = .returned (.string ⟨s.toArray⟩) ∧ Below W.heap.size W w') ∧ (Calls Tryz.prog 16 #[uy.val] W fun e w' => e = .returned (.bool true) ∧ Below W.heap.size W w')) := fun hz W hW => by
    obtain ⟨k1, k2, k3⟩ := line_back hyh hz
    have hle : uy.es = yr.es := congrArg Rc.es hya
    have h1 := TXu.out W uy _ wl.heap.size (hbwl.trans (hW.mono hbwl.size)) (hyL.under hW) hW.size (by rw [hya]; exact k1) (by rw [hle]; omega)
    have h2 := right5_any uy W _ wl.heap.size (hyL.under hW) hW.size
    rw [hya, k2] at h1
    rw [hya, k1] at h2
    exact ⟨h1, h2⟩
  have WKL : Hid (∀ W, Below wl.heap.size wl W → Calls Tryz.prog 9 #[] W fun e w' => e = .returned (.bool true) ∧ Below w.heap.size w w') := fun W hW => (WK.out W (hbwl.trans (hW.mono hbwl.size))).mono fun e w' h => ⟨h.1, (hbwl.trans (hW.mono hbwl.size)).trans (h.2.mono (hbwl.trans (hW.mono hbwl.size)).size)⟩
  obtain ⟨hk, ht, hx, hw, hn, hv, hpk, hpa, hpb, hA, hm, hc, hB, hq, hd, hvv⟩ := rv_form uy
  rw [hvv] at TY ⊢
  clear hvv hya hyL LL LN TXu WK hyh
  have hy9 := heap_alloc_new wl (.cells #[.int .i64 hk, .int .u64 ht, .int .u64 hx, .int .u64 hw, .int .u64 hn, .int .u64 hv, .int .i64 hpk, .int .u64 hpa, .int .u64 hpb, .slice hA hm hc, .slice hB hq hd] 30)
  have hb9n := below_new wl (.cells #[.int .i64 hk, .int .u64 ht, .int .u64 hx, .int .u64 hw, .int .u64 hn, .int .u64 hv, .int .i64 hpk, .int .u64 hpa, .int .u64 hpb, .slice hA hm hc, .slice hB hq hd] 30)
  go_upto_region 20 with (fail)
  generalize wl.alloc (.cells #[.int .i64 hk, .int .u64 ht, .int .u64 hx, .int .u64 hw, .int .u64 hn, .int .u64 hv, .int .i64 hpk, .int .u64 hpa, .int .u64 hpb, .slice hA hm hc, .slice hB hq hd] 30) = wz at *
  generalize Value.int .i64 hk = v0 at *
  generalize Value.int .u64 ht = v1 at *
  generalize Value.int .u64 hx = v2 at *
  generalize Value.int .u64 hw = v3 at *
  generalize Value.int .u64 hn = v4 at *
  generalize Value.int .u64 hv = v5 at *
  generalize Value.int .i64 hpk = v6 at *
  generalize Value.int .u64 hpa = v7 at *
  generalize Value.int .u64 hpb = v8 at *
  generalize Value.slice hA hm hc = v9 at *
  generalize Value.slice hB hq hd = v10 at *
  by_cases hz : hh = 0
  · have hzb : ((hh : Int) != 0) = false := by simp [hz]
    obtain ⟨c0, c1, c2, c3, c4, c5, c6, c7, c8, c9, c10⟩ := rec_cells hy9
    go_wp2_with fail
    refine (TY.out hz wz hb9n).1.mono ?_
    rintro e wy ⟨rfl, hby⟩
    clear c0 c1 c2 c3 c4 c5 c6 c7 c8 c9 c10
    obtain ⟨c0, c1, c2, c3, c4, c5, c6, c7, c8, c9, c10⟩ := rec_cells ((hby.block _ (lt_of_block hy9)).trans hy9)
    have hbz2 := hb9n.trans (hby.mono hb9n.size)
    go_wp2_with fail
    refine (TY.out hz wy hbz2).2.mono ?_
    rintro e wv ⟨rfl, hbv⟩
    clear c0 c1 c2 c3 c4 c5 c6 c7 c8 c9 c10
    go_wp2_with fail
    refine (WKL.out wv (hbz2.trans (hbv.mono hbz2.size))).mono ?_
    rintro e wu ⟨rfl, hbu⟩
    go_wp2
    go_ret
    exact ⟨rfl, hbu⟩
  · have hzb : ((hh : Int) != 0) = true := by simp; omega
    go_wp2_with fail
    refine (WKL.out wz hb9n).mono ?_
    rintro e wu ⟨rfl, hbu⟩
    go_wp2
    go_ret
    exact ⟨rfl, hbu⟩
end Go.Proofs.YtiiiklenhmhccaaGreatDoor
