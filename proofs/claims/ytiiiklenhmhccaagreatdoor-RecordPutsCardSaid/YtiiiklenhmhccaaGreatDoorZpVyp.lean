/-
  Layer 5: RecordPuts' walk.
-/
import Derived.Test.YtiiiklenhmhccaaGreatDoorZpVyq

namespace Go.Proofs.YtiiiklenhmhccaaGreatDoor
open Go Go.RowKit
set_option linter.unusedVariables false
set_option maxRecDepth 100000 in
set_option maxHeartbeats 25600000 in
theorem recputs_any (B : Nat) (r o : Rv) (p q x y : Nat) (hp : p < 18446744073709551616) (hq : q < 18446744073709551616) (hx : x < 18446744073709551616) (hy : y < 18446744073709551616) (w : World) (hL : RLies w 0 w.heap.size r) (hO : RLies w 0 w.heap.size o) (hE : EnvM B w) (hB : B ≤ w.heap.size) :
    Calls Tryz.prog 3 #[r.val, o.val, .agg #[.int .u64 (p : Int), .int .u64 (q : Int)], .agg #[.int .u64 (x : Int), .int .u64 (y : Int)]] w fun e w' => e = .returned (.bool true) ∧ Below w.heap.size w w' := by
  have WK : Hid (∀ W, Below w.heap.size w W → Calls Tryz.prog 9 #[] W fun e w' => e = .returned (.bool true) ∧ Below W.heap.size W w') := fun W hW => works5_any B W (hE.under (hW.mono (Nat.le_refl _)) hB) (Nat.le_trans hB hW.size)
  have FW : Hid (∀ W, Below w.heap.size w W → Calls Tryz.prog 8 #[r.val] W fun e w' => e = .returned (.bool (decide (r.es.length ≤ 60 ∧ r.p.abs.count ≤ 60))) ∧ Below W.heap.size W w') := fun W hW => fewrec5_any r W 0 w.heap.size (hL.under hW) hW.size
  have FO : Hid (∀ W, Below w.heap.size w W → Calls Tryz.prog 8 #[o.val] W fun e w' => e = .returned (.bool (decide (o.es.length ≤ 60 ∧ o.p.abs.count ≤ 60))) ∧ Below W.heap.size W w') := fun W hW => fewrec5_any o W 0 w.heap.size (hO.under hW) hW.size
  by_cases hfr : r.es.length ≤ 60 ∧ r.p.abs.count ≤ 60
  · by_cases hfo : o.es.length ≤ 60 ∧ o.p.abs.count ≤ 60
    · rw [decide_eq_true hfr] at FW
      rw [decide_eq_true hfo] at FO
      have DRr : Hid (∀ W, Below w.heap.size w W → Calls Tryz.prog 10 #[r.val] W (RecMade r.abs W)) := fun W hW => drec5_any r W 0 w.heap.size (hL.under hW) hW.size (by omega) (by omega)
      have DRo : Hid (∀ W, Below w.heap.size w W → Calls Tryz.prog 10 #[o.val] W (RecMade o.abs W)) := fun W hW => drec5_any o W 0 w.heap.size (hO.under hW) hW.size (by omega) (by omega)
      have PP : Hid (∀ W, Below w.heap.size w W → Calls Tryz.prog 12 #[r.val] W (PutU r.abs W)) := fun W hW => (rput5_any r W 0 w.heap.size (hL.under hW) hW.size (by omega)).mono fun e w' h => putU h
      have TX : Hid (∀ W, Below w.heap.size w W → Calls Tryz.prog 14 #[r.val] W fun e w' => e = .returned (.string ⟨r.abs.text.toArray⟩) ∧ Below W.heap.size W w') := fun W hW => ptext5_any B r W 0 w.heap.size (hL.under hW) hW.size (hE.under (hW.mono (Nat.le_refl _)) hB).1 (Nat.le_trans hB hW.size) (by omega) (by omega)
      have RG : Hid (∀ W, Below w.heap.size w W → Calls Tryz.prog 16 #[r.val] W fun e w' => e = .returned (.bool r.abs.rightB) ∧ Below W.heap.size W w') := fun W hW => right5_any r W 0 w.heap.size (hL.under hW) hW.size
      have CP : Hid (∀ W, Below w.heap.size w W → Calls Tryz.prog 19 #[r.val] W (CopyEnd r.abs W)) := fun W hW => copy5_any r W 0 w.heap.size (hL.under hW) hW.size (Nat.zero_le _) (by omega) (by omega)
      have SMo : Hid (∀ W, Below w.heap.size w W → Calls Tryz.prog 20 #[r.val, o.val] W fun e w' => e = .returned (.bool (r.abs.sameB o.abs)) ∧ Below W.heap.size W w') := fun W hW => msame5_any r o W 0 w.heap.size 0 w.heap.size (hL.under hW) hW.size (hO.under hW) hW.size (by omega) (by omega)
      have SMc : Hid (∀ (W : World) (u : Rv) (lo hi : Nat), Below w.heap.size w W → u.abs = r.abs → RLies W lo hi u → hi ≤ W.heap.size → Calls Tryz.prog 20 #[u.val, r.val] W fun e w' => e = .returned (.bool true) ∧ Below W.heap.size W w') := fun W u lo hi hW he hu h2 => by
        have hle : u.es = r.es := congrArg Rc.es he
        refine (msame5_any u r W lo hi 0 w.heap.size hu h2 (hL.under hW) hW.size (by rw [hle]; omega) (by omega)).mono ?_
        rintro e w' ⟨rfl, hb⟩
        exact ⟨by rw [he, sameR_self], hb⟩
      have DSr : Hid (∀ (W : World) (u : Rv) (lo hi : Nat), Below w.heap.size w W → u.abs = r.abs → RLies W lo hi u → hi ≤ W.heap.size → Calls Tryz.prog 10 #[r.val] W fun e w' => ∃ uv, e = .returned uv ∧ Hid (∀ W', Below w'.heap.size w' W' → Calls Tryz.prog 21 #[uv, u.val] W' fun e w'' => e = .returned (.bool true) ∧ Below W'.heap.size W' w'') ∧ Below W.heap.size W w') := fun W u lo hi hW he hu h2 =>
        docsame_any r u W 0 w.heap.size lo hi (hL.under hW) hW.size hu h2 he.symm (by omega) (by omega)
      have VT : Hid (∀ W, Below w.heap.size w W → Calls Tryz.prog 26 #[.agg #[.int .u64 (p : Int), .int .u64 (q : Int)]] W fun e w' => e = .returned (.string ⟨(verL p q).toArray⟩) ∧ Below W.heap.size W w') := fun W hW => vtext5_any B p q hp hq W (hE.under (hW.mono (Nat.le_refl _)) hB).1 (Nat.le_trans hB hW.size)
      have HSZ : Hid ((∀ u : Rv, u.abs = r.abs → u.es.length ≤ 60 ∧ u.p.abs.count ≤ 60) ∧ (∀ u : Rv, u.abs = o.abs → u.es.length ≤ 60 ∧ u.p.abs.count ≤ 60)) := by
        refine ⟨fun u he => ?_, fun u he => ?_⟩
        · have h1 : u.es = r.es := congrArg Rc.es he
          have h2 : u.p.abs = r.p.abs := congrArg Rc.p he
          rw [h1, h2]; exact hfr
        · have h1 : u.es = o.es := congrArg Rc.es he
          have h2 : u.p.abs = o.p.abs := congrArg Rc.p he
          rw [h1, h2]; exact hfo
      clear hL hO hE hfr hfo
      generalize r.abs = ra at *
      generalize o.abs = oa at *
      obtain ⟨k, t, x', wn, nn, v, p', A, c, es⟩ := r
      obtain ⟨k1, t1, x1, wn1, nn1, v1, p1, A1, c1, es1⟩ := o
      simp only [Rv.val, Rv.arr, Rv.sl, V.sl] at *
      obtain ⟨⟨hx1, hx2, hx3, hx4⟩, hsz, hb4⟩ := four_new w (.cells #[.int .i64 k, .int .u64 (t : Int), .int .u64 (x' : Int), .int .u64 (wn : Int), .int .u64 (nn : Int), .int .u64 (v : Int), .int .i64 p'.kind, .int .u64 (p'.a : Int), .int .u64 (p'.b : Int), .slice p'.addr p'.parts.length p'.cap, .slice A es.length c] 30) (.cells #[.int .i64 k1, .int .u64 (t1 : Int), .int .u64 (x1 : Int), .int .u64 (wn1 : Int), .int .u64 (nn1 : Int), .int .u64 (v1 : Int), .int .i64 p1.kind, .int .u64 (p1.a : Int), .int .u64 (p1.b : Int), .slice p1.addr p1.parts.length p1.cap, .slice A1 es1.length c1] 30) (.cells #[.int .u64 (p : Int), .int .u64 (q : Int)] 24) (.cells #[.int .u64 (x : Int), .int .u64 (y : Int)] 24)
      go_enter Tryz.func3, Tryz.ntmps3
      go_upto_region 1 with (fail)
      generalize (((w.alloc (.cells #[.int .i64 k, .int .u64 (t : Int), .int .u64 (x' : Int), .int .u64 (wn : Int), .int .u64 (nn : Int), .int .u64 (v : Int), .int .i64 p'.kind, .int .u64 (p'.a : Int), .int .u64 (p'.b : Int), .slice p'.addr p'.parts.length p'.cap, .slice A es.length c] 30)).alloc (.cells #[.int .i64 k1, .int .u64 (t1 : Int), .int .u64 (x1 : Int), .int .u64 (wn1 : Int), .int .u64 (nn1 : Int), .int .u64 (v1 : Int), .int .i64 p1.kind, .int .u64 (p1.a : Int), .int .u64 (p1.b : Int), .slice p1.addr p1.parts.length p1.cap, .slice A1 es1.length c1] 30)).alloc (.cells #[.int .u64 (p : Int), .int .u64 (q : Int)] 24)).alloc (.cells #[.int .u64 (x : Int), .int .u64 (y : Int)] 24) = w1 at *
      generalize Value.int .i64 k = xa0 at *
      generalize Value.int .u64 (t : Int) = xa1 at *
      generalize Value.int .u64 (x' : Int) = xa2 at *
      generalize Value.int .u64 (wn : Int) = xa3 at *
      generalize Value.int .u64 (nn : Int) = xa4 at *
      generalize Value.int .u64 (v : Int) = xa5 at *
      generalize Value.int .i64 p'.kind = xa6 at *
      generalize Value.int .u64 (p'.a : Int) = xa7 at *
      generalize Value.int .u64 (p'.b : Int) = xa8 at *
      generalize Value.slice p'.addr p'.parts.length p'.cap = xa9 at *
      generalize Value.slice A es.length c = xa10 at *
      generalize Value.int .i64 k1 = xo0 at *
      generalize Value.int .u64 (t1 : Int) = xo1 at *
      generalize Value.int .u64 (x1 : Int) = xo2 at *
      generalize Value.int .u64 (wn1 : Int) = xo3 at *
      generalize Value.int .u64 (nn1 : Int) = xo4 at *
      generalize Value.int .u64 (v1 : Int) = xo5 at *
      generalize Value.int .i64 p1.kind = xo6 at *
      generalize Value.int .u64 (p1.a : Int) = xo7 at *
      generalize Value.int .u64 (p1.b : Int) = xo8 at *
      generalize Value.slice p1.addr p1.parts.length p1.cap = xo9 at *
      generalize Value.slice A1 es1.length c1 = xo10 at *
      have HX : Hid (∀ W, Below w1.heap.size w1 W → (W.cell? ⟨w.heap.size, 0, none⟩ = some xa0 ∧ W.cell? ⟨w.heap.size, 1, none⟩ = some xa1 ∧ W.cell? ⟨w.heap.size, 2, none⟩ = some xa2 ∧ W.cell? ⟨w.heap.size, 3, none⟩ = some xa3 ∧ W.cell? ⟨w.heap.size, 4, none⟩ = some xa4 ∧ W.cell? ⟨w.heap.size, 5, none⟩ = some xa5 ∧ W.cell? ⟨w.heap.size, 6, none⟩ = some xa6 ∧ W.cell? ⟨w.heap.size, 7, none⟩ = some xa7 ∧ W.cell? ⟨w.heap.size, 8, none⟩ = some xa8 ∧ W.cell? ⟨w.heap.size, 9, none⟩ = some xa9 ∧ W.cell? ⟨w.heap.size, 10, none⟩ = some xa10) ∧ (W.cell? ⟨w.heap.size + 1, 0, none⟩ = some xo0 ∧ W.cell? ⟨w.heap.size + 1, 1, none⟩ = some xo1 ∧ W.cell? ⟨w.heap.size + 1, 2, none⟩ = some xo2 ∧ W.cell? ⟨w.heap.size + 1, 3, none⟩ = some xo3 ∧ W.cell? ⟨w.heap.size + 1, 4, none⟩ = some xo4 ∧ W.cell? ⟨w.heap.size + 1, 5, none⟩ = some xo5 ∧ W.cell? ⟨w.heap.size + 1, 6, none⟩ = some xo6 ∧ W.cell? ⟨w.heap.size + 1, 7, none⟩ = some xo7 ∧ W.cell? ⟨w.heap.size + 1, 8, none⟩ = some xo8 ∧ W.cell? ⟨w.heap.size + 1, 9, none⟩ = some xo9 ∧ W.cell? ⟨w.heap.size + 1, 10, none⟩ = some xo10) ∧ (W.cell? ⟨w.heap.size + 2, 0, none⟩ = some (.int .u64 (p : Int)) ∧ W.cell? ⟨w.heap.size + 2, 1, none⟩ = some (.int .u64 (q : Int))) ∧ (W.cell? ⟨w.heap.size + 3, 0, none⟩ = some (.int .u64 (x : Int)) ∧ W.cell? ⟨w.heap.size + 3, 1, none⟩ = some (.int .u64 (y : Int))) ∧ Below w.heap.size w W) := fun W hW =>
        ⟨rec_cells ((hW.block _ (by omega)).trans hx1), rec_cells ((hW.block _ (by omega)).trans hx2), two_cells ((hW.block _ (by omega)).trans hx3), two_cells ((hW.block _ (by omega)).trans hx4), hb4.trans (hW.mono (by omega))⟩
      have hs1 : w.heap.size ≤ w1.heap.size := by omega
      clear hx1 hx2 hx3 hx4
      obtain ⟨⟨c0, c1, c2, c3, c4, c5, c6, c7, c8, c9, c10⟩, -⟩ := HX.out w1 (Below.refl _ _)
      go_wp2_with fail
      refine (FW.out w1 hb4).mono ?_
      rintro e w2 ⟨rfl, hb2⟩
      clear c0 c1 c2 c3 c4 c5 c6 c7 c8 c9 c10
      obtain ⟨-, ⟨c0, c1, c2, c3, c4, c5, c6, c7, c8, c9, c10⟩, -, -, hbw2⟩ := HX.out w2 hb2
      go_wp2_with fail
      refine (FO.out w2 hbw2).mono ?_
      rintro e w3 ⟨rfl, hb3⟩
      have hb13 := hb2.trans (hb3.mono hb2.size)
      clear FW FO hb2 hb3 hbw2 hb4 c0 c1 c2 c3 c4 c5 c6 c7 c8 c9 c10
      go_upto_region 3 with (fail)
      have HX3 : Hid (∀ W, Below w3.heap.size w3 W → (W.cell? ⟨w.heap.size, 0, none⟩ = some xa0 ∧ W.cell? ⟨w.heap.size, 1, none⟩ = some xa1 ∧ W.cell? ⟨w.heap.size, 2, none⟩ = some xa2 ∧ W.cell? ⟨w.heap.size, 3, none⟩ = some xa3 ∧ W.cell? ⟨w.heap.size, 4, none⟩ = some xa4 ∧ W.cell? ⟨w.heap.size, 5, none⟩ = some xa5 ∧ W.cell? ⟨w.heap.size, 6, none⟩ = some xa6 ∧ W.cell? ⟨w.heap.size, 7, none⟩ = some xa7 ∧ W.cell? ⟨w.heap.size, 8, none⟩ = some xa8 ∧ W.cell? ⟨w.heap.size, 9, none⟩ = some xa9 ∧ W.cell? ⟨w.heap.size, 10, none⟩ = some xa10) ∧ (W.cell? ⟨w.heap.size + 1, 0, none⟩ = some xo0 ∧ W.cell? ⟨w.heap.size + 1, 1, none⟩ = some xo1 ∧ W.cell? ⟨w.heap.size + 1, 2, none⟩ = some xo2 ∧ W.cell? ⟨w.heap.size + 1, 3, none⟩ = some xo3 ∧ W.cell? ⟨w.heap.size + 1, 4, none⟩ = some xo4 ∧ W.cell? ⟨w.heap.size + 1, 5, none⟩ = some xo5 ∧ W.cell? ⟨w.heap.size + 1, 6, none⟩ = some xo6 ∧ W.cell? ⟨w.heap.size + 1, 7, none⟩ = some xo7 ∧ W.cell? ⟨w.heap.size + 1, 8, none⟩ = some xo8 ∧ W.cell? ⟨w.heap.size + 1, 9, none⟩ = some xo9 ∧ W.cell? ⟨w.heap.size + 1, 10, none⟩ = some xo10) ∧ (W.cell? ⟨w.heap.size + 2, 0, none⟩ = some (.int .u64 (p : Int)) ∧ W.cell? ⟨w.heap.size + 2, 1, none⟩ = some (.int .u64 (q : Int))) ∧ (W.cell? ⟨w.heap.size + 3, 0, none⟩ = some (.int .u64 (x : Int)) ∧ W.cell? ⟨w.heap.size + 3, 1, none⟩ = some (.int .u64 (y : Int))) ∧ Below w.heap.size w W) := fun W hW => HX.out W (hb13.trans (hW.mono hb13.size))
      have HS3 : Hid (w.heap.size + 4 ≤ w3.heap.size) := by have := hb13.size; unfold Hid; omega
      clear HX hb13 hs1 hsz
      have hs8 : ∀ a0 : Act, a0.tmps.size = 136 → SL6.ok ⟨28, 29, 30, 31, 9, 10⟩ a0.tmps.size := fun a0 h => by rw [h]; constructor <;> decide
      obtain ⟨MM, hMM⟩ : ∃ MM : Nat → Nat → Array Value → World → Prop, MM = (fun l h v W => ∃ z : Rv, v = z.arr ∧ z.abs = ra ∧ RLies W l h z) := ⟨_, rfl⟩
      obtain ⟨NN, hNN⟩ : ∃ NN : Nat → Nat → Array Value → World → Prop, NN = (fun l h v W => ∃ z : Rv, v = z.arr ∧ z.abs = oa ∧ RLies W l h z) := ⟨_, rfl⟩
      have hWM : Within MM := by rw [hMM]; intro l h v w w' hk hm; obtain ⟨z, e1, e2, e3⟩ := hm; exact ⟨z, e1, e2, e3.keep fun p k1 k2 => World.cell?_of_block (hk _ k1 k2)⟩
      have hWN : Within NN := by rw [hNN]; intro l h v w w' hk hm; obtain ⟨z, e1, e2, e3⟩ := hm; exact ⟨z, e1, e2, e3.keep fun p k1 k2 => World.cell?_of_block (hk _ k1 k2)⟩
      refine wp_region_gen2 (N := 136) (fun ac0 L ac W => ∃ g9 g10 l1 h1 l2 h2 u r, Two8 w3 ⟨28, 29, 30, 31, 9, 10⟩ (.agg #[xa0, xa1, xa2, xa3, xa4, xa5, xa6, xa7, xa8, xa9, xa10]) (.agg #[xo0, xo1, xo2, xo3, xo4, xo5, xo6, xo7, xo8, xo9, xo10]) 11 39 MM NN ac0 L ac W g9 g10 l1 h1 l2 h2 u r) (by kernel_rfl) (by kernel_rfl) ?_ ?_ ?_
      · exact ⟨_, _, _, _, _, _, _, _, Two8.start #[] #[]⟩
      · rintro i o L a wx hi hLi ⟨g9, g10, l1, h1, l2, h2, u, r, hI⟩ hD
        have hi8 : i < 8 := (Array.getElem?_eq_some_iff.1 hi).1
        have hcase : i = 0 ∨ i = 1 ∨ i = 2 ∨ i = 3 ∨ i = 4 ∨ i = 5 ∨ i = 6 ∨ i = 7 := by omega
        clear hi8
        rcases hcase with rfl | rfl | rfl | rfl | rfl | rfl | rfl | rfl
        · obtain rfl := Option.some.inj hi
          have e4 : a.tmps.getD 4 undef = .pointer (some ⟨w.heap.size, 0, none⟩) := (hI.other 4 (by decide) (by decide) (by decide) (by decide) (by decide) (by decide)).trans rfl
          obtain ⟨⟨c0, c1, c2, c3, c4, c5, c6, c7, c8, c9, c10⟩, -⟩ := HX3.out wx hI.below
          refine ⟨rfl, mid_step (.agg #[xa0, xa1, xa2, xa3, xa4, xa5, xa6, xa7, xa8, xa9, xa10]) wx (fun K hK => ?_) ⟨_, _, _, _, _, _, _, _, hI.op0 (hs8 _ rfl)⟩⟩
          go_simp
          exact hK
        · obtain rfl := Option.some.inj hi
          have e28 := hI.o0 (hD 0 (by kernel_rfl))
          have DX := DRr.out wx (HX3.out wx hI.below).2.2.2.2
          refine ⟨rfl, mid_call (fun v w' => ∃ z : Rv, v = z.val ∧ z.abs = ra ∧ RLies w' wx.heap.size w'.heap.size z ∧ Below wx.heap.size wx w') (fun K hK => ?_) (fun v w' h => ?_)⟩
          · go_simp
            refine DX.mono ?_
            rintro e w' ⟨z, rfl, k1, k2, k3⟩
            exact hK _ _ ⟨z, rfl, k1, k2, k3⟩
          · obtain ⟨z, rfl, k1, k2, k3⟩ := h
            exact ⟨_, _, _, _, _, _, _, _, hI.op1 (hs8 _ rfl) hWM hWN hLi k3 (by rw [hMM]; exact ⟨z, rfl, k1, k2⟩)⟩
        · obtain rfl := Option.some.inj hi
          have e5 : a.tmps.getD 5 undef = .pointer (some ⟨w.heap.size + 1, 0, none⟩) := (hI.other 5 (by decide) (by decide) (by decide) (by decide) (by decide) (by decide)).trans rfl
          obtain ⟨-, ⟨c0, c1, c2, c3, c4, c5, c6, c7, c8, c9, c10⟩, -⟩ := HX3.out wx hI.below
          refine ⟨rfl, mid_step (.agg #[xo0, xo1, xo2, xo3, xo4, xo5, xo6, xo7, xo8, xo9, xo10]) wx (fun K hK => ?_) ⟨_, _, _, _, _, _, _, _, hI.op2 (hs8 _ rfl)⟩⟩
          go_simp
          exact hK
        · obtain rfl := Option.some.inj hi
          have e30 := hI.o2 (hD 2 (by kernel_rfl))
          have DX := DRo.out wx (HX3.out wx hI.below).2.2.2.2
          refine ⟨rfl, mid_call (fun v w' => ∃ z : Rv, v = z.val ∧ z.abs = oa ∧ RLies w' wx.heap.size w'.heap.size z ∧ Below wx.heap.size wx w') (fun K hK => ?_) (fun v w' h => ?_)⟩
          · go_simp
            refine DX.mono ?_
            rintro e w' ⟨z, rfl, k1, k2, k3⟩
            exact hK _ _ ⟨z, rfl, k1, k2, k3⟩
          · obtain ⟨z, rfl, k1, k2, k3⟩ := h
            exact ⟨_, _, _, _, _, _, _, _, hI.op3 (hs8 _ rfl) hWM hWN hLi k3 (by rw [hNN]; exact ⟨z, rfl, k1, k2⟩)⟩
        · obtain rfl := Option.some.inj hi
          refine ⟨rfl, mid_step (.pointer (some ⟨wx.heap.size, 0, none⟩)) (wx.alloc (.cells #[.int .i64 0, .int .u64 0, .int .u64 0, .int .u64 0, .int .u64 0, .int .u64 0, .int .i64 0, .int .u64 0, .int .u64 0, .slice none 0 0, .slice none 0 0] 39)) (fun K hK => ?_) ⟨_, _, _, _, _, _, _, _, hI.op4 (hs8 _ rfl) hWM hWN hLi _ rfl⟩⟩
          go_simp
          exact hK
        · obtain rfl := Option.some.inj hi
          refine ⟨rfl, mid_step (.pointer (some ⟨wx.heap.size, 0, none⟩)) (wx.alloc (.cells #[.int .i64 0, .int .u64 0, .int .u64 0, .int .u64 0, .int .u64 0, .int .u64 0, .int .i64 0, .int .u64 0, .int .u64 0, .slice none 0 0, .slice none 0 0] 39)) (fun K hK => ?_) ⟨_, _, _, _, _, _, _, _, hI.op5 (hs8 _ rfl) hWM hWN hLi _ rfl⟩⟩
          go_simp
          exact hK
        · obtain rfl := Option.some.inj hi
          have k1 := hD 1 (by kernel_rfl)
          have k4 := hD 4 (by kernel_rfl)
          have k5 := hD 5 (by kernel_rfl)
          obtain ⟨ev, hm, -, -⟩ := hI.o1 k1
          obtain ⟨ex, -, xs, hxs, hrow⟩ := hI.o4 k4
          rw [hMM] at hm
          obtain ⟨z, rfl, -, -⟩ := hm
          obtain ⟨zk, zt, zx, zw, zn, zv, zp, zA, zc, ze⟩ := z
          simp only [Rv.arr, Rv.sl, V.sl] at ev
          obtain ⟨y0, y1, y2, y3, y4, y5, y6, y7, y8, y9, y10, rfl⟩ := size11 hxs
          obtain ⟨c0, c1, c2, c3, c4, c5, c6, c7, c8, c9, c10⟩ := rec_cells hrow
          obtain ⟨z0, z1, z2, z3, z4, z5, z6, z7, z8, z9, z10⟩ := rec_frozen hrow
          refine ⟨rfl, mid_step undef (put11 wx g9 (.int .i64 zk) (.int .u64 (zt : Int)) (.int .u64 (zx : Int)) (.int .u64 (zw : Int)) (.int .u64 (zn : Int)) (.int .u64 (zv : Int)) (.int .i64 zp.kind) (.int .u64 (zp.a : Int)) (.int .u64 (zp.b : Int)) (.slice zp.addr zp.parts.length zp.cap) (.slice zA ze.length zc)) (fun K hK => ?_) ⟨_, _, _, _, _, _, _, _, hI.op6 hWM hWN hLi k1 k4 k5 rfl (rowset11 (.int .i64 zk) (.int .u64 (zt : Int)) (.int .u64 (zx : Int)) (.int .u64 (zw : Int)) (.int .u64 (zn : Int)) (.int .u64 (zv : Int)) (.int .i64 zp.kind) (.int .u64 (zp.a : Int)) (.int .u64 (zp.b : Int)) (.slice zp.addr zp.parts.length zp.cap) (.slice zA ze.length zc) hrow)⟩⟩
          go_simp
          exact hK
        · obtain rfl := Option.some.inj hi
          have k1 := hD 3 (by kernel_rfl)
          have k4 := hD 4 (by kernel_rfl)
          have k5 := hD 5 (by kernel_rfl)
          obtain ⟨ev, hm, -, -⟩ := hI.o3 k1
          obtain ⟨ex, -, xs, hxs, hrow⟩ := hI.o5 k5
          rw [hNN] at hm
          obtain ⟨z, rfl, -, -⟩ := hm
          obtain ⟨zk, zt, zx, zw, zn, zv, zp, zA, zc, ze⟩ := z
          simp only [Rv.arr, Rv.sl, V.sl] at ev
          obtain ⟨y0, y1, y2, y3, y4, y5, y6, y7, y8, y9, y10, rfl⟩ := size11 hxs
          obtain ⟨c0, c1, c2, c3, c4, c5, c6, c7, c8, c9, c10⟩ := rec_cells hrow
          obtain ⟨z0, z1, z2, z3, z4, z5, z6, z7, z8, z9, z10⟩ := rec_frozen hrow
          refine ⟨rfl, mid_step undef (put11 wx g10 (.int .i64 zk) (.int .u64 (zt : Int)) (.int .u64 (zx : Int)) (.int .u64 (zw : Int)) (.int .u64 (zn : Int)) (.int .u64 (zv : Int)) (.int .i64 zp.kind) (.int .u64 (zp.a : Int)) (.int .u64 (zp.b : Int)) (.slice zp.addr zp.parts.length zp.cap) (.slice zA ze.length zc)) (fun K hK => ?_) ⟨_, _, _, _, _, _, _, _, hI.op7 hWM hWN hLi k1 k4 k5 rfl (rowset11 (.int .i64 zk) (.int .u64 (zt : Int)) (.int .u64 (zx : Int)) (.int .u64 (zw : Int)) (.int .u64 (zn : Int)) (.int .u64 (zv : Int)) (.int .i64 zp.kind) (.int .u64 (zp.a : Int)) (.int .u64 (zp.b : Int)) (.slice zp.addr zp.parts.length zp.cap) (.slice zA ze.length zc) hrow)⟩⟩
          go_simp
          exact hK
      · rintro L a wx ⟨g9, g10, l1, h1, l2, h2, u, r, hI⟩ hall
        have hact := hI.act (hs8 _ rfl) hall
        obtain ⟨-, -, hr9⟩ := hI.o6 (hall 6 (by decide))
        obtain ⟨-, -, hr10⟩ := hI.o7 (hall 7 (by decide))
        obtain ⟨-, hmu, hu1, hu2⟩ := hI.o1 (hall 1 (by decide))
        obtain ⟨-, hmr, hr1, hr2⟩ := hI.o3 (hall 3 (by decide))
        have hg9 := (hI.o4 (hall 4 (by decide))).2.1
        have hg10 := (hI.o5 (hall 5 (by decide))).2.1
        have hbX := hI.below
        rw [hMM] at hmu
        rw [hNN] at hmr
        rw [hact]
        clear hact hI hall hWM hWN hs8 hMM hNN
        simp only [Act.put, List.setIfInBounds_toArray, List.set_cons_succ, List.set_cons_zero]
        obtain ⟨u, rfl, hua, huL⟩ := hmu
        obtain ⟨s, rfl, hsa, hsL⟩ := hmr
        have hb5 : Below w3.heap.size w3 wx := hbX
        obtain ⟨w5, hw5⟩ : ∃ w5, w5 = wx := ⟨_, rfl⟩
        subst hw5
        have HUL : Hid (∀ W, Below w5.heap.size w5 W → RLies W l1 h1 u ∧ h1 ≤ W.heap.size) := fun W hW => ⟨huL.under (hW.mono hu2), Nat.le_trans hu2 hW.size⟩
        have HSL : Hid (∀ W, Below w5.heap.size w5 W → RLies W l2 h2 s ∧ h2 ≤ W.heap.size) := fun W hW => ⟨hsL.under (hW.mono hr2), Nat.le_trans hr2 hW.size⟩
        have HUZ := Lib_hid (And.intro (HSZ.out.1 u hua) (HSZ.out.2 s hsa))
        have HBW5 : Hid (Below w.heap.size w w5) := (HX3.out w5 hb5).2.2.2.2
        have DP : Hid (∀ W, Below w5.heap.size w5 W → Calls Tryz.prog 11 #[u.val] W (DPut ra W)) := fun W hW => by have h := dput5_any u W l1 h1 (HUL.out W hW).1 (HUL.out W hW).2 (by have := HUZ.out; omega) (by have := HUZ.out; omega); rw [hua] at h; exact h
        have DT : Hid (∀ W, Below w5.heap.size w5 W → Calls Tryz.prog 15 #[u.val] W fun e w' => e = .returned (.string ⟨ra.text.toArray⟩) ∧ Below W.heap.size W w') := fun W hW => by have h := rtext5_any u W l1 h1 (HUL.out W hW).1 (HUL.out W hW).2 (by have := HUZ.out; omega) (by have := HUZ.out; omega); rw [hua] at h; exact h
        have DG : Hid (∀ W, Below w5.heap.size w5 W → Calls Tryz.prog 17 #[u.val] W fun e w' => e = .returned (.bool ra.rightB) ∧ Below W.heap.size W w') := fun W hW => by have h := rright5_any u W l1 h1 (HUL.out W hW).1 (HUL.out W hW).2 (by have := HUZ.out; omega); rw [hua] at h; exact h
        have DXY : Hid (∀ W, Below w5.heap.size w5 W → Calls Tryz.prog 21 #[u.val, s.val] W fun e w' => e = .returned (.bool (ra.sameB oa)) ∧ Below W.heap.size W w') := fun W hW => by have h := rsame5_any u s W l1 h1 l2 h2 (HUL.out W hW).1 (HUL.out W hW).2 (HSL.out W hW).1 (HSL.out W hW).2; rw [hua, hsa] at h; exact h
        have DSA : Hid (∀ W, Below w5.heap.size w5 W → Calls Tryz.prog 10 #[.agg #[xa0, xa1, xa2, xa3, xa4, xa5, xa6, xa7, xa8, xa9, xa10]] W fun e w' => ∃ uv, e = .returned uv ∧ Hid (∀ W', Below w'.heap.size w' W' → Calls Tryz.prog 21 #[uv, u.val] W' fun e w'' => e = .returned (.bool true) ∧ Below W'.heap.size W' w'') ∧ Below W.heap.size W w') := fun W hW => DSr.out W u l1 h1 (HBW5.out.trans (hW.mono HBW5.out.size)) hua (HUL.out W hW).1 (HUL.out W hW).2
        have DSC : Hid (∀ (W : World) (z : Rv) (lo hi : Nat), Below w5.heap.size w5 W → z.abs = ra → RLies W lo hi z → hi ≤ W.heap.size → Calls Tryz.prog 10 #[z.val] W fun e w' => ∃ uv, e = .returned uv ∧ Hid (∀ W', Below w'.heap.size w' W' → Calls Tryz.prog 21 #[uv, u.val] W' fun e w'' => e = .returned (.bool true) ∧ Below W'.heap.size W' w'') ∧ Below W.heap.size W w') := fun W z lo hi hW hz hzL hzh => docsame_any z u W lo hi l1 h1 hzL hzh (HUL.out W hW).1 (HUL.out W hW).2 (hz.trans hua.symm) (by have := HSZ.out.1 z hz; omega) (by have := HSZ.out.1 z hz; omega)
        obtain ⟨xu0, xu1, xu2, xu3, xu4, xu5, xu6, xu7, xu8, xu9, xu10, hua'⟩ := arr11 u
        obtain ⟨xs0, xs1, xs2, xs3, xs4, xs5, xs6, xs7, xs8, xs9, xs10, hsa'⟩ := arr11 s
        have huv : u.val = .agg #[xu0, xu1, xu2, xu3, xu4, xu5, xu6, xu7, xu8, xu9, xu10] := by unfold Rv.val; rw [hua']
        have hsv : s.val = .agg #[xs0, xs1, xs2, xs3, xs4, xs5, xs6, xs7, xs8, xs9, xs10] := by unfold Rv.val; rw [hsa']
        rw [huv] at DP DT DG DXY DSA DSC
        rw [hsv] at DXY
        rw [hua'] at hr9 ⊢
        rw [hsa'] at hr10 ⊢
        have HX5 : Hid (∀ W, Below w5.heap.size w5 W → (W.cell? ⟨w.heap.size, 0, none⟩ = some xa0 ∧ W.cell? ⟨w.heap.size, 1, none⟩ = some xa1 ∧ W.cell? ⟨w.heap.size, 2, none⟩ = some xa2 ∧ W.cell? ⟨w.heap.size, 3, none⟩ = some xa3 ∧ W.cell? ⟨w.heap.size, 4, none⟩ = some xa4 ∧ W.cell? ⟨w.heap.size, 5, none⟩ = some xa5 ∧ W.cell? ⟨w.heap.size, 6, none⟩ = some xa6 ∧ W.cell? ⟨w.heap.size, 7, none⟩ = some xa7 ∧ W.cell? ⟨w.heap.size, 8, none⟩ = some xa8 ∧ W.cell? ⟨w.heap.size, 9, none⟩ = some xa9 ∧ W.cell? ⟨w.heap.size, 10, none⟩ = some xa10) ∧ (W.cell? ⟨w.heap.size + 1, 0, none⟩ = some xo0 ∧ W.cell? ⟨w.heap.size + 1, 1, none⟩ = some xo1 ∧ W.cell? ⟨w.heap.size + 1, 2, none⟩ = some xo2 ∧ W.cell? ⟨w.heap.size + 1, 3, none⟩ = some xo3 ∧ W.cell? ⟨w.heap.size + 1, 4, none⟩ = some xo4 ∧ W.cell? ⟨w.heap.size + 1, 5, none⟩ = some xo5 ∧ W.cell? ⟨w.heap.size + 1, 6, none⟩ = some xo6 ∧ W.cell? ⟨w.heap.size + 1, 7, none⟩ = some xo7 ∧ W.cell? ⟨w.heap.size + 1, 8, none⟩ = some xo8 ∧ W.cell? ⟨w.heap.size + 1, 9, none⟩ = some xo9 ∧ W.cell? ⟨w.heap.size + 1, 10, none⟩ = some xo10) ∧ (W.cell? ⟨g9, 0, none⟩ = some xu0 ∧ W.cell? ⟨g9, 1, none⟩ = some xu1 ∧ W.cell? ⟨g9, 2, none⟩ = some xu2 ∧ W.cell? ⟨g9, 3, none⟩ = some xu3 ∧ W.cell? ⟨g9, 4, none⟩ = some xu4 ∧ W.cell? ⟨g9, 5, none⟩ = some xu5 ∧ W.cell? ⟨g9, 6, none⟩ = some xu6 ∧ W.cell? ⟨g9, 7, none⟩ = some xu7 ∧ W.cell? ⟨g9, 8, none⟩ = some xu8 ∧ W.cell? ⟨g9, 9, none⟩ = some xu9 ∧ W.cell? ⟨g9, 10, none⟩ = some xu10) ∧ (W.cell? ⟨g10, 0, none⟩ = some xs0 ∧ W.cell? ⟨g10, 1, none⟩ = some xs1 ∧ W.cell? ⟨g10, 2, none⟩ = some xs2 ∧ W.cell? ⟨g10, 3, none⟩ = some xs3 ∧ W.cell? ⟨g10, 4, none⟩ = some xs4 ∧ W.cell? ⟨g10, 5, none⟩ = some xs5 ∧ W.cell? ⟨g10, 6, none⟩ = some xs6 ∧ W.cell? ⟨g10, 7, none⟩ = some xs7 ∧ W.cell? ⟨g10, 8, none⟩ = some xs8 ∧ W.cell? ⟨g10, 9, none⟩ = some xs9 ∧ W.cell? ⟨g10, 10, none⟩ = some xs10) ∧ (W.cell? ⟨w.heap.size + 2, 0, none⟩ = some (.int .u64 (p : Int)) ∧ W.cell? ⟨w.heap.size + 2, 1, none⟩ = some (.int .u64 (q : Int))) ∧ (W.cell? ⟨w.heap.size + 3, 0, none⟩ = some (.int .u64 (x : Int)) ∧ W.cell? ⟨w.heap.size + 3, 1, none⟩ = some (.int .u64 (y : Int))) ∧ Below w.heap.size w W) := fun W hW => by
          obtain ⟨k1, k2, k3, k4, k5⟩ := HX3.out W (hb5.trans (hW.mono hb5.size))
          exact ⟨k1, k2, rec_cells ((hW.block _ (lt_of_blk hr9)).trans hr9), rec_cells ((hW.block _ (lt_of_blk hr10)).trans hr10), k3, k4, k5⟩
        clear hr9 hr10 hua hsa huL hsL hu1 hu2 hr1 hr2 hg9 hg10 hbX hb5 HX3 HS3 hua' hsa' huv hsv DRr DRo DSr HUL HSL HUZ
        obtain ⟨-, -, ⟨c0, c1, c2, c3, c4, c5, c6, c7, c8, c9, c10⟩, -⟩ := HX5.out w5 (Below.refl _ _)
        go_wp2_with fail
        refine (DP.out w5 (Below.refl _ _)).mono ?_
        rintro e w6 ⟨rfl, hb6⟩
        clear DP c0 c1 c2 c3 c4 c5 c6 c7 c8 c9 c10
        have HFB := Lib_hid (frD_byte ra)
        have HTX : Hid (∀ z : List UInt8, (z == z) = true) := fun z => by simp
        unfold PutU at PP
        generalize (frD ra).1 = fk at *
        generalize (frD ra).2 = fl at *
        generalize erD ra = ez at *
        generalize hrt : ra.rightB = rb at *
        generalize ra.text = tx at *
        generalize hsb : ra.sameB oa = sb at *
        clear hrt hsb
        have HNEQ : Hid (∀ W, (binOp .neq 42 (.agg #[.int .u8 (fk : Int), .string (str fl)]) (.agg #[.int .u8 (fk : Int), .string (str fl)])).run Tryz.prog W = .ok (.bool false) W) := fun W => by
          have h := neq_fr fk fk fl fl W HFB.out HFB.out
          have hs : sameF (fk, fl) (fk, fl) = true := by unfold sameF; simp [eqB_self]
          rw [hs] at h
          exact h
        unfold dfv
        have hq7 := heap_alloc_new w6 (.cells #[.int .u8 (fk : Int), .string (str fl)] 42)
        have hb7 := hb6.trans ((below_new w6 (.cells #[.int .u8 (fk : Int), .string (str fl)] 42)).mono hb6.size)
        go_upto_region 5 with (fail)
        generalize w6.alloc (.cells #[.int .u8 (fk : Int), .string (str fl)] 42) = w7 at *
        have HX7 : Hid (∀ W, Below w7.heap.size w7 W → (W.cell? ⟨w.heap.size, 0, none⟩ = some xa0 ∧ W.cell? ⟨w.heap.size, 1, none⟩ = some xa1 ∧ W.cell? ⟨w.heap.size, 2, none⟩ = some xa2 ∧ W.cell? ⟨w.heap.size, 3, none⟩ = some xa3 ∧ W.cell? ⟨w.heap.size, 4, none⟩ = some xa4 ∧ W.cell? ⟨w.heap.size, 5, none⟩ = some xa5 ∧ W.cell? ⟨w.heap.size, 6, none⟩ = some xa6 ∧ W.cell? ⟨w.heap.size, 7, none⟩ = some xa7 ∧ W.cell? ⟨w.heap.size, 8, none⟩ = some xa8 ∧ W.cell? ⟨w.heap.size, 9, none⟩ = some xa9 ∧ W.cell? ⟨w.heap.size, 10, none⟩ = some xa10) ∧ (W.cell? ⟨w.heap.size + 1, 0, none⟩ = some xo0 ∧ W.cell? ⟨w.heap.size + 1, 1, none⟩ = some xo1 ∧ W.cell? ⟨w.heap.size + 1, 2, none⟩ = some xo2 ∧ W.cell? ⟨w.heap.size + 1, 3, none⟩ = some xo3 ∧ W.cell? ⟨w.heap.size + 1, 4, none⟩ = some xo4 ∧ W.cell? ⟨w.heap.size + 1, 5, none⟩ = some xo5 ∧ W.cell? ⟨w.heap.size + 1, 6, none⟩ = some xo6 ∧ W.cell? ⟨w.heap.size + 1, 7, none⟩ = some xo7 ∧ W.cell? ⟨w.heap.size + 1, 8, none⟩ = some xo8 ∧ W.cell? ⟨w.heap.size + 1, 9, none⟩ = some xo9 ∧ W.cell? ⟨w.heap.size + 1, 10, none⟩ = some xo10) ∧ (W.cell? ⟨g9, 0, none⟩ = some xu0 ∧ W.cell? ⟨g9, 1, none⟩ = some xu1 ∧ W.cell? ⟨g9, 2, none⟩ = some xu2 ∧ W.cell? ⟨g9, 3, none⟩ = some xu3 ∧ W.cell? ⟨g9, 4, none⟩ = some xu4 ∧ W.cell? ⟨g9, 5, none⟩ = some xu5 ∧ W.cell? ⟨g9, 6, none⟩ = some xu6 ∧ W.cell? ⟨g9, 7, none⟩ = some xu7 ∧ W.cell? ⟨g9, 8, none⟩ = some xu8 ∧ W.cell? ⟨g9, 9, none⟩ = some xu9 ∧ W.cell? ⟨g9, 10, none⟩ = some xu10) ∧ (W.cell? ⟨g10, 0, none⟩ = some xs0 ∧ W.cell? ⟨g10, 1, none⟩ = some xs1 ∧ W.cell? ⟨g10, 2, none⟩ = some xs2 ∧ W.cell? ⟨g10, 3, none⟩ = some xs3 ∧ W.cell? ⟨g10, 4, none⟩ = some xs4 ∧ W.cell? ⟨g10, 5, none⟩ = some xs5 ∧ W.cell? ⟨g10, 6, none⟩ = some xs6 ∧ W.cell? ⟨g10, 7, none⟩ = some xs7 ∧ W.cell? ⟨g10, 8, none⟩ = some xs8 ∧ W.cell? ⟨g10, 9, none⟩ = some xs9 ∧ W.cell? ⟨g10, 10, none⟩ = some xs10) ∧ (W.cell? ⟨w.heap.size + 2, 0, none⟩ = some (.int .u64 (p : Int)) ∧ W.cell? ⟨w.heap.size + 2, 1, none⟩ = some (.int .u64 (q : Int))) ∧ (W.cell? ⟨w.heap.size + 3, 0, none⟩ = some (.int .u64 (x : Int)) ∧ W.cell? ⟨w.heap.size + 3, 1, none⟩ = some (.int .u64 (y : Int))) ∧ (W.cell? ⟨w6.heap.size, 0, none⟩ = some (.int .u8 (fk : Int)) ∧ W.cell? ⟨w6.heap.size, 1, none⟩ = some (.string (str fl))) ∧ Below w.heap.size w W ∧ Below w5.heap.size w5 W) := fun W hW => by
          obtain ⟨k1, k2, k3, k4, k5, k6, k7⟩ := HX5.out W (hb7.trans (hW.mono hb7.size))
          exact ⟨k1, k2, k3, k4, k5, k6, two_cells ((hW.block _ (lt_of_blk hq7)).trans hq7), k7, hb7.trans (hW.mono hb7.size)⟩
        have hbw7 := HBW5.out.trans (hb7.mono HBW5.out.size)
        have HBW7 := Lib_hid hbw7
        clear hq7 hb6 hb7 hbw7 HX5 HBW5
        go_wp2
        go_loopw [13] (fun z W => ∃ tt : Nat, z = .int .i64 tt ∧ tt ≤ 2 ∧ Hid (Below w7.heap.size w7 W)) (fun z _ => 2 - (intOf z).toNat)
        case atStart => exact ⟨0, rfl, by omega, Lib_hid (Below.refl _ _)⟩
        case round =>
          obtain ⟨tt, rfl, htt, hbW⟩ := hrel
          rename World => W
          by_cases hlt : tt < 2
          · have ht2 : (tt : Int) < 2 := by omega
            obtain ⟨⟨c0, c1, c2, c3, c4, c5, c6, c7, c8, c9, c10⟩, -, -, -, -, -, -, hbw, hb5W⟩ := HX7.out W hbW.out
            go_wp2_with fail
            refine (PP.out W hbw).mono ?_
            rintro e w8 ⟨A8, cp8, rfl, ho8, hb8⟩
            clear c0 c1 c2 c3 c4 c5 c6 c7 c8 c9 c10
            have hq9 := heap_alloc_new w8 (.cells #[.int .u8 (fk : Int), .slice A8 fl.length cp8] 48)
            have hn9 := below_new w8 (.cells #[.int .u8 (fk : Int), .slice A8 fl.length cp8] 48)
            have ho9 := own_below ho8 hn9 (own_lt ho8)
            have hb79 := hbW.out.trans ((hb8.trans (hn9.mono hb8.size)).mono hbW.out.size)
            have hsW := hbW.out.size
            have hs8 := hb8.size
            clear ho8 hn9 hb8
            go_upto_region 9 with (fail)
            generalize w8.alloc (.cells #[.int .u8 (fk : Int), .slice A8 fl.length cp8] 48) = w9 at *
            have hs9 := lt_of_blk hq9
            have S12 : Hid (∀ W, Below w9.heap.size w9 W → (W.cell? ⟨w.heap.size, 0, none⟩ = some xa0 ∧ W.cell? ⟨w.heap.size, 1, none⟩ = some xa1 ∧ W.cell? ⟨w.heap.size, 2, none⟩ = some xa2 ∧ W.cell? ⟨w.heap.size, 3, none⟩ = some xa3 ∧ W.cell? ⟨w.heap.size, 4, none⟩ = some xa4 ∧ W.cell? ⟨w.heap.size, 5, none⟩ = some xa5 ∧ W.cell? ⟨w.heap.size, 6, none⟩ = some xa6 ∧ W.cell? ⟨w.heap.size, 7, none⟩ = some xa7 ∧ W.cell? ⟨w.heap.size, 8, none⟩ = some xa8 ∧ W.cell? ⟨w.heap.size, 9, none⟩ = some xa9 ∧ W.cell? ⟨w.heap.size, 10, none⟩ = some xa10) ∧ (W.cell? ⟨g9, 0, none⟩ = some xu0 ∧ W.cell? ⟨g9, 1, none⟩ = some xu1 ∧ W.cell? ⟨g9, 2, none⟩ = some xu2 ∧ W.cell? ⟨g9, 3, none⟩ = some xu3 ∧ W.cell? ⟨g9, 4, none⟩ = some xu4 ∧ W.cell? ⟨g9, 5, none⟩ = some xu5 ∧ W.cell? ⟨g9, 6, none⟩ = some xu6 ∧ W.cell? ⟨g9, 7, none⟩ = some xu7 ∧ W.cell? ⟨g9, 8, none⟩ = some xu8 ∧ W.cell? ⟨g9, 9, none⟩ = some xu9 ∧ W.cell? ⟨g9, 10, none⟩ = some xu10) ∧ (W.cell? ⟨w6.heap.size, 0, none⟩ = some (.int .u8 (fk : Int)) ∧ W.cell? ⟨w6.heap.size, 1, none⟩ = some (.string (str fl))) ∧ (W.cell? ⟨w8.heap.size, 0, none⟩ = some (.int .u8 (fk : Int)) ∧ W.cell? ⟨w8.heap.size, 1, none⟩ = some (.slice A8 fl.length cp8))) := fun W hW => by
              obtain ⟨k1, -, k3, -, -, -, k7, -⟩ := HX7.out W (hb79.trans (hW.mono hb79.size))
              exact ⟨k1, k3, k7, two_cells ((hW.block _ hs9).trans hq9)⟩
            have C0 : Hid (∀ W, Below w9.heap.size w9 W → Below w.heap.size w W ∧ Below w5.heap.size w5 W ∧ Below w7.heap.size w7 W) := fun W hW => by
              obtain ⟨-, -, -, -, -, -, -, k8, k9⟩ := HX7.out W (hb79.trans (hW.mono hb79.size))
              exact ⟨k8, k9, hb79.trans (hW.mono hb79.size)⟩
            have C1 : Hid (∀ W, Below w9.heap.size w9 W → Calls Tryz.prog 13 #[.agg #[.int .u8 (fk : Int), .slice A8 fl.length cp8]] W fun e w' => e = .returned (.agg #[.int .u8 (fk : Int), .string (str fl)]) ∧ Below W.heap.size W w') := fun W hW => dframe_any _ fk A8 fl.length cp8 fl W (Rd.own (own_below ho9 hW (own_lt ho9))) (Nat.le_refl _)
            have C2 : Hid (∀ W, Below w9.heap.size w9 W → Calls Tryz.prog 14 #[.agg #[xa0, xa1, xa2, xa3, xa4, xa5, xa6, xa7, xa8, xa9, xa10]] W fun e w' => e = .returned (.string ⟨tx.toArray⟩) ∧ Below W.heap.size W w') := fun W hW => TX.out W (C0.out W hW).1
            have C3 : Hid (∀ W, Below w9.heap.size w9 W → Calls Tryz.prog 15 #[.agg #[xu0, xu1, xu2, xu3, xu4, xu5, xu6, xu7, xu8, xu9, xu10]] W fun e w' => e = .returned (.string ⟨tx.toArray⟩) ∧ Below W.heap.size W w') := fun W hW => DT.out W (C0.out W hW).2.1
            have C4 : Hid (∀ W, Below w9.heap.size w9 W → Calls Tryz.prog 16 #[.agg #[xa0, xa1, xa2, xa3, xa4, xa5, xa6, xa7, xa8, xa9, xa10]] W fun e w' => e = .returned (.bool rb) ∧ Below W.heap.size W w') := fun W hW => RG.out W (C0.out W hW).1
            have C5 : Hid (∀ W, Below w9.heap.size w9 W → Calls Tryz.prog 17 #[.agg #[xu0, xu1, xu2, xu3, xu4, xu5, xu6, xu7, xu8, xu9, xu10]] W fun e w' => e = .returned (.bool rb) ∧ Below W.heap.size W w') := fun W hW => DG.out W (C0.out W hW).2.1
            have HO9 := Lib_hid ho9
            have HQ9 := Lib_hid (And.intro hq9 hs9)
            have hez : ((ez : Int) != (ez : Int)) = false := by simp
            have htx : (tx == tx) = true := by simp
            have htx2 : (tx != tx) = false := by simp
            have hrb : (rb != rb) = false := by simp
            have hnq := HNEQ.out
            clear hbw hb5W ho9 hq9
            go_region_held3 (fun W => (W.cell? ⟨w.heap.size, 0, none⟩ = some xa0 ∧ W.cell? ⟨w.heap.size, 1, none⟩ = some xa1 ∧ W.cell? ⟨w.heap.size, 2, none⟩ = some xa2 ∧ W.cell? ⟨w.heap.size, 3, none⟩ = some xa3 ∧ W.cell? ⟨w.heap.size, 4, none⟩ = some xa4 ∧ W.cell? ⟨w.heap.size, 5, none⟩ = some xa5 ∧ W.cell? ⟨w.heap.size, 6, none⟩ = some xa6 ∧ W.cell? ⟨w.heap.size, 7, none⟩ = some xa7 ∧ W.cell? ⟨w.heap.size, 8, none⟩ = some xa8 ∧ W.cell? ⟨w.heap.size, 9, none⟩ = some xa9 ∧ W.cell? ⟨w.heap.size, 10, none⟩ = some xa10) ∧ (W.cell? ⟨g9, 0, none⟩ = some xu0 ∧ W.cell? ⟨g9, 1, none⟩ = some xu1 ∧ W.cell? ⟨g9, 2, none⟩ = some xu2 ∧ W.cell? ⟨g9, 3, none⟩ = some xu3 ∧ W.cell? ⟨g9, 4, none⟩ = some xu4 ∧ W.cell? ⟨g9, 5, none⟩ = some xu5 ∧ W.cell? ⟨g9, 6, none⟩ = some xu6 ∧ W.cell? ⟨g9, 7, none⟩ = some xu7 ∧ W.cell? ⟨g9, 8, none⟩ = some xu8 ∧ W.cell? ⟨g9, 9, none⟩ = some xu9 ∧ W.cell? ⟨g9, 10, none⟩ = some xu10) ∧ (W.cell? ⟨w6.heap.size, 0, none⟩ = some (.int .u8 (fk : Int)) ∧ W.cell? ⟨w6.heap.size, 1, none⟩ = some (.string (str fl))) ∧ (W.cell? ⟨w8.heap.size, 0, none⟩ = some (.int .u8 (fk : Int)) ∧ W.cell? ⟨w8.heap.size, 1, none⟩ = some (.slice A8 fl.length cp8)))
              (first | exact S12.out _ (below_like4 (Below.refl _ _) rfl rfl rfl rfl) | exact S12.out _ ka | exact S12.out _ kb | exact S12.out _ kc | exact S12.out _ kd | exact S12.out _ ke)
              ((first | (go_at_call 13; ((with_reducible refine (C1.out _ (by exact below_like4 (Below.refl _ _) rfl rfl rfl rfl)).mono ?_); rintro e wa ⟨rfl, ka'⟩; have ka : Below w9.heap.size w9 wa := ⟨ka'.os, ka'.tape, ka'.output, ka'.size, ka'.block⟩)) | (go_at_call 14; ((with_reducible refine (C2.out _ ka).mono ?_); rintro e wb ⟨rfl, kb'⟩; have kb := ka.trans (kb'.mono ka.size))) | (go_at_call 15; ((with_reducible refine (C3.out _ kb).mono ?_); rintro e wc ⟨rfl, kc'⟩; have kc := kb.trans (kc'.mono kb.size))) | (go_at_call 16; ((with_reducible refine (C4.out _ kc).mono ?_); rintro e wd ⟨rfl, kd'⟩; have kd := kc.trans (kd'.mono kc.size))) | (go_at_call 17; ((with_reducible refine (C5.out _ kd).mono ?_); rintro e we ⟨rfl, ke'⟩; have ke := kd.trans (ke'.mono kd.size)))))
            all_goals
              obtain ⟨-, -, -, f0, f1⟩ := S12.out we ke
              have hoe := own_below HO9.out ke (own_lt HO9.out)
              have hbe := (C0.out we ke).2.2
              clear S12 C1 C2 C3 C4 C5 C0 hez htx htx2 hrb hnq HO9 HQ9 hs9
              go_wp2_with fail
              refine (spoil_any W.heap.size fl.length cp8 A8 _ we hoe (by have := own_cap hoe; omega)).mono ?_
              rintro e wf ⟨rfl, hgf⟩
              have hbf := hbe.grown hgf hbe.size (fun j hj => by have := own_ge hoe j hj; omega)
              clear f0 f1 hoe hgf hbe ka kb kc kd ke ka' kb' kc' kd' ke'
              obtain ⟨⟨c0, c1, c2, c3, c4, c5, c6, c7, c8, c9, c10⟩, -, -, -, -, -, -, hbw, hb5f⟩ := HX7.out wf hbf
              go_wp2_with fail
              refine (CP.out wf hbw).mono ?_
              rintro e wg ⟨z, rfl, hza, hzL, hzS, hbg⟩
              clear c0 c1 c2 c3 c4 c5 c6 c7 c8 c9 c10
              obtain ⟨wh, hwh⟩ : ∃ wh, wh = wg.alloc (.cells z.arr 30) := ⟨_, rfl⟩
              have hnh : Below wg.heap.size wg wh := by rw [hwh]; exact below_new _ _
              have hrow : wh.heap[wg.heap.size]? = some (.cells z.arr 30 (0, 0)) := by rw [hwh]; exact heap_alloc_new _ _
              have hsg := hbg.size
              have hbfh := hbg.trans (hnh.mono hbg.size)
              have HZ : Hid (∀ W', Below wh.heap.size wh W' → RLies W' wf.heap.size wg.heap.size z ∧ wg.heap.size ≤ W'.heap.size ∧ Below w.heap.size w W' ∧ Below w5.heap.size w5 W' ∧ SpR wf.heap.size z W' ∧ Below wf.heap.size wf W') := fun W' hW' => by
                have hbfW := hbfh.trans (hW'.mono hbfh.size)
                have h1 := hnh.size
                have h2 := hW'.size
                exact ⟨(hzL.under hnh).under (hW'.mono h1), by omega, hbw.trans (hbfW.mono hbw.size), hb5f.trans (hbfW.mono hb5f.size), (hzS.under hnh).under hW', hbfW⟩
              have K1 : Hid (∀ W', Below wh.heap.size wh W' → Calls Tryz.prog 20 #[z.val, .agg #[xa0, xa1, xa2, xa3, xa4, xa5, xa6, xa7, xa8, xa9, xa10]] W' fun e w' => e = .returned (.bool true) ∧ Below W'.heap.size W' w') := fun W' hW' => SMc.out W' z _ _ (HZ.out W' hW').2.2.1 hza (HZ.out W' hW').1 (HZ.out W' hW').2.1
              have K2 : Hid (∀ W', Below wh.heap.size wh W' → Calls Tryz.prog 10 #[z.val] W' fun e w' => ∃ uv, e = .returned uv ∧ Hid (∀ W'', Below w'.heap.size w' W'' → Calls Tryz.prog 21 #[uv, .agg #[xu0, xu1, xu2, xu3, xu4, xu5, xu6, xu7, xu8, xu9, xu10]] W'' fun e w'' => e = .returned (.bool true) ∧ Below W''.heap.size W'' w'') ∧ Below W'.heap.size W' w') := fun W' hW' => DSC.out W' z _ _ (HZ.out W' hW').2.2.2.1 hza (HZ.out W' hW').1 (HZ.out W' hW').2.1
              have K3 : Hid (∀ W', Below wh.heap.size wh W' → Calls Tryz.prog 22 #[z.val] W' fun e w' => e = .returned (.tuple #[]) ∧ Below wf.heap.size W' w') := fun W' hW' => spoilrec_any z W' wf.heap.size (HZ.out W' hW').2.2.2.2.1 (by have := (HSZ.out.1 z hza).2; omega) (by have := (HSZ.out.1 z hza).1; omega) (HZ.out W' hW').2.2.2.2.2.size
              have HBF : Hid (∀ W', Below wh.heap.size wh W' → Below w7.heap.size w7 W' ∧ w7.heap.size ≤ wf.heap.size ∧ Below wf.heap.size wf W') := fun W' hW' => ⟨hbf.trans ((HZ.out W' hW').2.2.2.2.2.mono hbf.size), hbf.size, (HZ.out W' hW').2.2.2.2.2⟩
              have HROW := Lib_hid (And.intro hrow (lt_of_blk hrow))
              clear hza hzL hzS hbg hnh hrow hbfh HZ hbw hb5f
              obtain ⟨zk, zt, zx, zw, zn, zv, zp, zA, zq, ze⟩ := z
              simp only [Rv.val, Rv.arr, Rv.sl, V.sl] at K1 K2 K3 HROW hwh ⊢
              go_upto_region 13 with (fail)
              rw [← hwh]
              clear hwh
              generalize Value.int .i64 zk = xd0 at *
              generalize Value.int .u64 (zt : Int) = xd1 at *
              generalize Value.int .u64 (zx : Int) = xd2 at *
              generalize Value.int .u64 (zw : Int) = xd3 at *
              generalize Value.int .u64 (zn : Int) = xd4 at *
              generalize Value.int .u64 (zv : Int) = xd5 at *
              generalize Value.int .i64 zp.kind = xd6 at *
              generalize Value.int .u64 (zp.a : Int) = xd7 at *
              generalize Value.int .u64 (zp.b : Int) = xd8 at *
              generalize Value.slice zp.addr zp.parts.length zp.cap = xd9 at *
              generalize Value.slice zA ze.length zq = xd10 at *
              have T12 : Hid (∀ W, Below wh.heap.size wh W → (W.cell? ⟨wg.heap.size, 0, none⟩ = some xd0 ∧ W.cell? ⟨wg.heap.size, 1, none⟩ = some xd1 ∧ W.cell? ⟨wg.heap.size, 2, none⟩ = some xd2 ∧ W.cell? ⟨wg.heap.size, 3, none⟩ = some xd3 ∧ W.cell? ⟨wg.heap.size, 4, none⟩ = some xd4 ∧ W.cell? ⟨wg.heap.size, 5, none⟩ = some xd5 ∧ W.cell? ⟨wg.heap.size, 6, none⟩ = some xd6 ∧ W.cell? ⟨wg.heap.size, 7, none⟩ = some xd7 ∧ W.cell? ⟨wg.heap.size, 8, none⟩ = some xd8 ∧ W.cell? ⟨wg.heap.size, 9, none⟩ = some xd9 ∧ W.cell? ⟨wg.heap.size, 10, none⟩ = some xd10) ∧ (W.cell? ⟨w.heap.size, 0, none⟩ = some xa0 ∧ W.cell? ⟨w.heap.size, 1, none⟩ = some xa1 ∧ W.cell? ⟨w.heap.size, 2, none⟩ = some xa2 ∧ W.cell? ⟨w.heap.size, 3, none⟩ = some xa3 ∧ W.cell? ⟨w.heap.size, 4, none⟩ = some xa4 ∧ W.cell? ⟨w.heap.size, 5, none⟩ = some xa5 ∧ W.cell? ⟨w.heap.size, 6, none⟩ = some xa6 ∧ W.cell? ⟨w.heap.size, 7, none⟩ = some xa7 ∧ W.cell? ⟨w.heap.size, 8, none⟩ = some xa8 ∧ W.cell? ⟨w.heap.size, 9, none⟩ = some xa9 ∧ W.cell? ⟨w.heap.size, 10, none⟩ = some xa10) ∧ (W.cell? ⟨g9, 0, none⟩ = some xu0 ∧ W.cell? ⟨g9, 1, none⟩ = some xu1 ∧ W.cell? ⟨g9, 2, none⟩ = some xu2 ∧ W.cell? ⟨g9, 3, none⟩ = some xu3 ∧ W.cell? ⟨g9, 4, none⟩ = some xu4 ∧ W.cell? ⟨g9, 5, none⟩ = some xu5 ∧ W.cell? ⟨g9, 6, none⟩ = some xu6 ∧ W.cell? ⟨g9, 7, none⟩ = some xu7 ∧ W.cell? ⟨g9, 8, none⟩ = some xu8 ∧ W.cell? ⟨g9, 9, none⟩ = some xu9 ∧ W.cell? ⟨g9, 10, none⟩ = some xu10)) := fun W' hW' => by
                obtain ⟨k1, -, k3, -⟩ := HX7.out W' (HBF.out W' hW').1
                exact ⟨rec_cells ((hW'.block _ HROW.out.2).trans HROW.out.1), k1, k3⟩
              go_region_held3 (fun W => (W.cell? ⟨wg.heap.size, 0, none⟩ = some xd0 ∧ W.cell? ⟨wg.heap.size, 1, none⟩ = some xd1 ∧ W.cell? ⟨wg.heap.size, 2, none⟩ = some xd2 ∧ W.cell? ⟨wg.heap.size, 3, none⟩ = some xd3 ∧ W.cell? ⟨wg.heap.size, 4, none⟩ = some xd4 ∧ W.cell? ⟨wg.heap.size, 5, none⟩ = some xd5 ∧ W.cell? ⟨wg.heap.size, 6, none⟩ = some xd6 ∧ W.cell? ⟨wg.heap.size, 7, none⟩ = some xd7 ∧ W.cell? ⟨wg.heap.size, 8, none⟩ = some xd8 ∧ W.cell? ⟨wg.heap.size, 9, none⟩ = some xd9 ∧ W.cell? ⟨wg.heap.size, 10, none⟩ = some xd10) ∧ (W.cell? ⟨w.heap.size, 0, none⟩ = some xa0 ∧ W.cell? ⟨w.heap.size, 1, none⟩ = some xa1 ∧ W.cell? ⟨w.heap.size, 2, none⟩ = some xa2 ∧ W.cell? ⟨w.heap.size, 3, none⟩ = some xa3 ∧ W.cell? ⟨w.heap.size, 4, none⟩ = some xa4 ∧ W.cell? ⟨w.heap.size, 5, none⟩ = some xa5 ∧ W.cell? ⟨w.heap.size, 6, none⟩ = some xa6 ∧ W.cell? ⟨w.heap.size, 7, none⟩ = some xa7 ∧ W.cell? ⟨w.heap.size, 8, none⟩ = some xa8 ∧ W.cell? ⟨w.heap.size, 9, none⟩ = some xa9 ∧ W.cell? ⟨w.heap.size, 10, none⟩ = some xa10) ∧ (W.cell? ⟨g9, 0, none⟩ = some xu0 ∧ W.cell? ⟨g9, 1, none⟩ = some xu1 ∧ W.cell? ⟨g9, 2, none⟩ = some xu2 ∧ W.cell? ⟨g9, 3, none⟩ = some xu3 ∧ W.cell? ⟨g9, 4, none⟩ = some xu4 ∧ W.cell? ⟨g9, 5, none⟩ = some xu5 ∧ W.cell? ⟨g9, 6, none⟩ = some xu6 ∧ W.cell? ⟨g9, 7, none⟩ = some xu7 ∧ W.cell? ⟨g9, 8, none⟩ = some xu8 ∧ W.cell? ⟨g9, 9, none⟩ = some xu9 ∧ W.cell? ⟨g9, 10, none⟩ = some xu10))
                (first | exact T12.out _ (below_like4 (Below.refl _ _) rfl rfl rfl rfl) | exact T12.out _ ka | exact T12.out _ kb | exact T12.out _ kc)
                ((first | (go_at_call 20; ((with_reducible refine (K1.out _ (by exact below_like4 (Below.refl _ _) rfl rfl rfl rfl)).mono ?_); rintro e wa ⟨rfl, ka'⟩; have ka : Below wh.heap.size wh wa := ⟨ka'.os, ka'.tape, ka'.output, ka'.size, ka'.block⟩)) | (go_at_call 10; ((with_reducible refine (K2.out _ ka).mono ?_); rintro e wb ⟨uv, rfl, ks, kb'⟩; have kb := ka.trans (kb'.mono ka.size))) | (go_at_call 21; ((with_reducible refine (ks.out _ (Below.refl _ _)).mono ?_); rintro e wc ⟨rfl, kc'⟩; have kc := kb.trans (kc'.mono kb.size)))))
              all_goals
                obtain ⟨⟨c0, c1, c2, c3, c4, c5, c6, c7, c8, c9, c10⟩, -⟩ := T12.out wc kc
                go_wp2_with fail
                refine (K3.out wc kc).mono ?_
                rintro e wd ⟨rfl, hbd⟩
                have HR : Hid (Below w7.heap.size w7 wd) := by
                  obtain ⟨q1, q2, -⟩ := HBF.out wc kc
                  exact q1.trans (hbd.mono q2)
                clear K1 K2 K3 T12 HBF HROW ka kb kc ka' kb' kc' ks hbd c0 c1 c2 c3 c4 c5 c6 c7 c8 c9 c10
                go_wp2
                go_roundw
                case rel => exact ⟨tt + 1, by go_num, by omega, HR⟩
                case measure => simp [intOf]; omega
          · obtain rfl : tt = 2 := by omega
            obtain ⟨WW, hWW⟩ : ∃ WW, WW = W := ⟨_, rfl⟩
            subst hWW
            have HXW : Hid (∀ W, Below WW.heap.size WW W → (W.cell? ⟨w.heap.size, 0, none⟩ = some xa0 ∧ W.cell? ⟨w.heap.size, 1, none⟩ = some xa1 ∧ W.cell? ⟨w.heap.size, 2, none⟩ = some xa2 ∧ W.cell? ⟨w.heap.size, 3, none⟩ = some xa3 ∧ W.cell? ⟨w.heap.size, 4, none⟩ = some xa4 ∧ W.cell? ⟨w.heap.size, 5, none⟩ = some xa5 ∧ W.cell? ⟨w.heap.size, 6, none⟩ = some xa6 ∧ W.cell? ⟨w.heap.size, 7, none⟩ = some xa7 ∧ W.cell? ⟨w.heap.size, 8, none⟩ = some xa8 ∧ W.cell? ⟨w.heap.size, 9, none⟩ = some xa9 ∧ W.cell? ⟨w.heap.size, 10, none⟩ = some xa10) ∧ (W.cell? ⟨w.heap.size + 1, 0, none⟩ = some xo0 ∧ W.cell? ⟨w.heap.size + 1, 1, none⟩ = some xo1 ∧ W.cell? ⟨w.heap.size + 1, 2, none⟩ = some xo2 ∧ W.cell? ⟨w.heap.size + 1, 3, none⟩ = some xo3 ∧ W.cell? ⟨w.heap.size + 1, 4, none⟩ = some xo4 ∧ W.cell? ⟨w.heap.size + 1, 5, none⟩ = some xo5 ∧ W.cell? ⟨w.heap.size + 1, 6, none⟩ = some xo6 ∧ W.cell? ⟨w.heap.size + 1, 7, none⟩ = some xo7 ∧ W.cell? ⟨w.heap.size + 1, 8, none⟩ = some xo8 ∧ W.cell? ⟨w.heap.size + 1, 9, none⟩ = some xo9 ∧ W.cell? ⟨w.heap.size + 1, 10, none⟩ = some xo10) ∧ (W.cell? ⟨g9, 0, none⟩ = some xu0 ∧ W.cell? ⟨g9, 1, none⟩ = some xu1 ∧ W.cell? ⟨g9, 2, none⟩ = some xu2 ∧ W.cell? ⟨g9, 3, none⟩ = some xu3 ∧ W.cell? ⟨g9, 4, none⟩ = some xu4 ∧ W.cell? ⟨g9, 5, none⟩ = some xu5 ∧ W.cell? ⟨g9, 6, none⟩ = some xu6 ∧ W.cell? ⟨g9, 7, none⟩ = some xu7 ∧ W.cell? ⟨g9, 8, none⟩ = some xu8 ∧ W.cell? ⟨g9, 9, none⟩ = some xu9 ∧ W.cell? ⟨g9, 10, none⟩ = some xu10) ∧ (W.cell? ⟨g10, 0, none⟩ = some xs0 ∧ W.cell? ⟨g10, 1, none⟩ = some xs1 ∧ W.cell? ⟨g10, 2, none⟩ = some xs2 ∧ W.cell? ⟨g10, 3, none⟩ = some xs3 ∧ W.cell? ⟨g10, 4, none⟩ = some xs4 ∧ W.cell? ⟨g10, 5, none⟩ = some xs5 ∧ W.cell? ⟨g10, 6, none⟩ = some xs6 ∧ W.cell? ⟨g10, 7, none⟩ = some xs7 ∧ W.cell? ⟨g10, 8, none⟩ = some xs8 ∧ W.cell? ⟨g10, 9, none⟩ = some xs9 ∧ W.cell? ⟨g10, 10, none⟩ = some xs10) ∧ (W.cell? ⟨w.heap.size + 2, 0, none⟩ = some (.int .u64 (p : Int)) ∧ W.cell? ⟨w.heap.size + 2, 1, none⟩ = some (.int .u64 (q : Int))) ∧ (W.cell? ⟨w.heap.size + 3, 0, none⟩ = some (.int .u64 (x : Int)) ∧ W.cell? ⟨w.heap.size + 3, 1, none⟩ = some (.int .u64 (y : Int))) ∧ (W.cell? ⟨w6.heap.size, 0, none⟩ = some (.int .u8 (fk : Int)) ∧ W.cell? ⟨w6.heap.size, 1, none⟩ = some (.string (str fl))) ∧ Below w.heap.size w W ∧ Below w5.heap.size w5 W) := fun W' hW' => HX7.out W' (hbW.out.trans (hW'.mono hbW.out.size))
            clear HX7 PP CP TX RG DT DG DSC SMc hbW HNEQ HTX HFB HSZ HBW7
            go_upto_region 16 with (fail)
            have hs8 : ∀ a0 : Act, a0.tmps.size = 136 → SL6.ok ⟨87, 88, 89, 90, 17, 18⟩ a0.tmps.size := fun a0 h => by rw [h]; constructor <;> decide
            obtain ⟨MM, hMM⟩ : ∃ MM : Nat → Nat → Array Value → World → Prop, MM = (fun l h v W => v = #[.int .u64 (p : Int), .int .u64 (q : Int)]) := ⟨_, rfl⟩
            obtain ⟨NN, hNN⟩ : ∃ NN : Nat → Nat → Array Value → World → Prop, NN = (fun l h v W => v = #[.int .u64 (x : Int), .int .u64 (y : Int)]) := ⟨_, rfl⟩
            have hWM : Within MM := by rw [hMM]; intro l h v w w' hk hm; exact hm
            have hWN : Within NN := by rw [hNN]; intro l h v w w' hk hm; exact hm
            refine wp_region_gen2 (N := 136) (fun ac0 L ac W => ∃ ga gb l1 h1 l2 h2 u r, Two8 WW ⟨87, 88, 89, 90, 17, 18⟩ (.agg #[.int .u64 (p : Int), .int .u64 (q : Int)]) (.agg #[.int .u64 (x : Int), .int .u64 (y : Int)]) 2 33 MM NN ac0 L ac W ga gb l1 h1 l2 h2 u r) (by kernel_rfl) (by kernel_rfl) ?_ ?_ ?_
            · exact ⟨_, _, _, _, _, _, _, _, Two8.start #[] #[]⟩
            · rintro i o L a wx hi hLi ⟨ga, gb, l1, h1, l2, h2, u, r, hI⟩ hD
              have hi8 : i < 8 := (Array.getElem?_eq_some_iff.1 hi).1
              have hcase : i = 0 ∨ i = 1 ∨ i = 2 ∨ i = 3 ∨ i = 4 ∨ i = 5 ∨ i = 6 ∨ i = 7 := by omega
              clear hi8
              rcases hcase with rfl | rfl | rfl | rfl | rfl | rfl | rfl | rfl
              · obtain rfl := Option.some.inj hi
                have e6 : a.tmps.getD 6 undef = .pointer (some ⟨w.heap.size + 2, 0, none⟩) := (hI.other 6 (by decide) (by decide) (by decide) (by decide) (by decide) (by decide)).trans rfl
                obtain ⟨-, -, -, -, ⟨c0, c1⟩, -⟩ := HXW.out wx hI.below
                refine ⟨rfl, mid_step (.agg #[.int .u64 (p : Int), .int .u64 (q : Int)]) wx (fun K hK => ?_) ⟨_, _, _, _, _, _, _, _, hI.op0 (hs8 _ rfl)⟩⟩
                go_simp
                exact hK
              · obtain rfl := Option.some.inj hi
                have e87 := hI.o0 (hD 0 (by kernel_rfl))
                have DX := docver_any p q wx
                refine ⟨rfl, mid_call (fun v w' => v = .agg #[.int .u64 (p : Int), .int .u64 (q : Int)] ∧ Below wx.heap.size wx w') (fun K hK => ?_) (fun v w' h => ?_)⟩
                · go_simp
                  refine DX.mono ?_
                  rintro e w' ⟨rfl, k1⟩
                  exact hK _ _ ⟨rfl, k1⟩
                · obtain ⟨rfl, k1⟩ := h
                  exact ⟨_, _, _, _, _, _, _, _, hI.op1 (hs8 _ rfl) hWM hWN hLi k1 (by rw [hMM])⟩
              · obtain rfl := Option.some.inj hi
                have e7 : a.tmps.getD 7 undef = .pointer (some ⟨w.heap.size + 3, 0, none⟩) := (hI.other 7 (by decide) (by decide) (by decide) (by decide) (by decide) (by decide)).trans rfl
                obtain ⟨-, -, -, -, -, ⟨c0, c1⟩, -⟩ := HXW.out wx hI.below
                refine ⟨rfl, mid_step (.agg #[.int .u64 (x : Int), .int .u64 (y : Int)]) wx (fun K hK => ?_) ⟨_, _, _, _, _, _, _, _, hI.op2 (hs8 _ rfl)⟩⟩
                go_simp
                exact hK
              · obtain rfl := Option.some.inj hi
                have e89 := hI.o2 (hD 2 (by kernel_rfl))
                have DX := docver_any x y wx
                refine ⟨rfl, mid_call (fun v w' => v = .agg #[.int .u64 (x : Int), .int .u64 (y : Int)] ∧ Below wx.heap.size wx w') (fun K hK => ?_) (fun v w' h => ?_)⟩
                · go_simp
                  refine DX.mono ?_
                  rintro e w' ⟨rfl, k1⟩
                  exact hK _ _ ⟨rfl, k1⟩
                · obtain ⟨rfl, k1⟩ := h
                  exact ⟨_, _, _, _, _, _, _, _, hI.op3 (hs8 _ rfl) hWM hWN hLi k1 (by rw [hNN])⟩
              · obtain rfl := Option.some.inj hi
                refine ⟨rfl, mid_step (.pointer (some ⟨wx.heap.size, 0, none⟩)) (wx.alloc (.cells #[.int .u64 0, .int .u64 0] 33)) (fun K hK => ?_) ⟨_, _, _, _, _, _, _, _, hI.op4 (hs8 _ rfl) hWM hWN hLi _ rfl⟩⟩
                go_simp
                exact hK
              · obtain rfl := Option.some.inj hi
                refine ⟨rfl, mid_step (.pointer (some ⟨wx.heap.size, 0, none⟩)) (wx.alloc (.cells #[.int .u64 0, .int .u64 0] 33)) (fun K hK => ?_) ⟨_, _, _, _, _, _, _, _, hI.op5 (hs8 _ rfl) hWM hWN hLi _ rfl⟩⟩
                go_simp
                exact hK
              · obtain rfl := Option.some.inj hi
                have k1 := hD 1 (by kernel_rfl)
                have k4 := hD 4 (by kernel_rfl)
                have k5 := hD 5 (by kernel_rfl)
                obtain ⟨ev, hm, -, -⟩ := hI.o1 k1
                obtain ⟨ex, -, xs, hxs, hrow⟩ := hI.o4 k4
                rw [hMM] at hm
                subst hm
                obtain ⟨y0, y1, rfl⟩ := size2 hxs
                obtain ⟨c0, c1⟩ := two_cells hrow
                have z0 := frozen_of_row wx ga 0 _ _ hrow
                have z1 := frozen_of_row wx ga 1 _ _ hrow
                refine ⟨rfl, mid_step undef ((wx.setCell ⟨ga, 0, none⟩ (.int .u64 (p : Int))).setCell ⟨ga, 1, none⟩ (.int .u64 (q : Int))) (fun K hK => ?_) ⟨_, _, _, _, _, _, _, _, hI.op6 hWM hWN hLi k1 k4 k5 rfl (rowset2 (.int .u64 (p : Int)) (.int .u64 (q : Int)) hrow)⟩⟩
                go_simp
                exact hK
              · obtain rfl := Option.some.inj hi
                have k1 := hD 3 (by kernel_rfl)
                have k4 := hD 4 (by kernel_rfl)
                have k5 := hD 5 (by kernel_rfl)
                obtain ⟨ev, hm, -, -⟩ := hI.o3 k1
                obtain ⟨ex, -, xs, hxs, hrow⟩ := hI.o5 k5
                rw [hNN] at hm
                subst hm
                obtain ⟨y0, y1, rfl⟩ := size2 hxs
                obtain ⟨c0, c1⟩ := two_cells hrow
                have z0 := frozen_of_row wx gb 0 _ _ hrow
                have z1 := frozen_of_row wx gb 1 _ _ hrow
                refine ⟨rfl, mid_step undef ((wx.setCell ⟨gb, 0, none⟩ (.int .u64 (x : Int))).setCell ⟨gb, 1, none⟩ (.int .u64 (y : Int))) (fun K hK => ?_) ⟨_, _, _, _, _, _, _, _, hI.op7 hWM hWN hLi k1 k4 k5 rfl (rowset2 (.int .u64 (x : Int)) (.int .u64 (y : Int)) hrow)⟩⟩
                go_simp
                exact hK
            · rintro L a wx ⟨ga, gb, l1, h1, l2, h2, u, r, hI⟩ hall
              have hact := hI.act (hs8 _ rfl) hall
              obtain ⟨-, -, hr9⟩ := hI.o6 (hall 6 (by decide))
              obtain ⟨-, -, hr10⟩ := hI.o7 (hall 7 (by decide))
              obtain ⟨-, hmu, hu1, hu2⟩ := hI.o1 (hall 1 (by decide))
              obtain ⟨-, hmr, hr1, hr2⟩ := hI.o3 (hall 3 (by decide))
              have hg9 := (hI.o4 (hall 4 (by decide))).2.1
              have hg10 := (hI.o5 (hall 5 (by decide))).2.1
              have hbX := hI.below
              rw [hMM] at hmu
              rw [hNN] at hmr
              rw [hact]
              clear hact hI hall hWM hWN hs8 hMM hNN
              simp only [Act.put, List.setIfInBounds_toArray, List.set_cons_succ, List.set_cons_zero]
              subst hmu
              subst hmr
              obtain ⟨wz, hwz⟩ : ∃ wz, wz = wx := ⟨_, rfl⟩
              subst hwz
              have HXZ : Hid (∀ W, Below wz.heap.size wz W → (W.cell? ⟨w.heap.size, 0, none⟩ = some xa0 ∧ W.cell? ⟨w.heap.size, 1, none⟩ = some xa1 ∧ W.cell? ⟨w.heap.size, 2, none⟩ = some xa2 ∧ W.cell? ⟨w.heap.size, 3, none⟩ = some xa3 ∧ W.cell? ⟨w.heap.size, 4, none⟩ = some xa4 ∧ W.cell? ⟨w.heap.size, 5, none⟩ = some xa5 ∧ W.cell? ⟨w.heap.size, 6, none⟩ = some xa6 ∧ W.cell? ⟨w.heap.size, 7, none⟩ = some xa7 ∧ W.cell? ⟨w.heap.size, 8, none⟩ = some xa8 ∧ W.cell? ⟨w.heap.size, 9, none⟩ = some xa9 ∧ W.cell? ⟨w.heap.size, 10, none⟩ = some xa10) ∧ (W.cell? ⟨w.heap.size + 1, 0, none⟩ = some xo0 ∧ W.cell? ⟨w.heap.size + 1, 1, none⟩ = some xo1 ∧ W.cell? ⟨w.heap.size + 1, 2, none⟩ = some xo2 ∧ W.cell? ⟨w.heap.size + 1, 3, none⟩ = some xo3 ∧ W.cell? ⟨w.heap.size + 1, 4, none⟩ = some xo4 ∧ W.cell? ⟨w.heap.size + 1, 5, none⟩ = some xo5 ∧ W.cell? ⟨w.heap.size + 1, 6, none⟩ = some xo6 ∧ W.cell? ⟨w.heap.size + 1, 7, none⟩ = some xo7 ∧ W.cell? ⟨w.heap.size + 1, 8, none⟩ = some xo8 ∧ W.cell? ⟨w.heap.size + 1, 9, none⟩ = some xo9 ∧ W.cell? ⟨w.heap.size + 1, 10, none⟩ = some xo10) ∧ (W.cell? ⟨g9, 0, none⟩ = some xu0 ∧ W.cell? ⟨g9, 1, none⟩ = some xu1 ∧ W.cell? ⟨g9, 2, none⟩ = some xu2 ∧ W.cell? ⟨g9, 3, none⟩ = some xu3 ∧ W.cell? ⟨g9, 4, none⟩ = some xu4 ∧ W.cell? ⟨g9, 5, none⟩ = some xu5 ∧ W.cell? ⟨g9, 6, none⟩ = some xu6 ∧ W.cell? ⟨g9, 7, none⟩ = some xu7 ∧ W.cell? ⟨g9, 8, none⟩ = some xu8 ∧ W.cell? ⟨g9, 9, none⟩ = some xu9 ∧ W.cell? ⟨g9, 10, none⟩ = some xu10) ∧ (W.cell? ⟨g10, 0, none⟩ = some xs0 ∧ W.cell? ⟨g10, 1, none⟩ = some xs1 ∧ W.cell? ⟨g10, 2, none⟩ = some xs2 ∧ W.cell? ⟨g10, 3, none⟩ = some xs3 ∧ W.cell? ⟨g10, 4, none⟩ = some xs4 ∧ W.cell? ⟨g10, 5, none⟩ = some xs5 ∧ W.cell? ⟨g10, 6, none⟩ = some xs6 ∧ W.cell? ⟨g10, 7, none⟩ = some xs7 ∧ W.cell? ⟨g10, 8, none⟩ = some xs8 ∧ W.cell? ⟨g10, 9, none⟩ = some xs9 ∧ W.cell? ⟨g10, 10, none⟩ = some xs10) ∧ (W.cell? ⟨w.heap.size + 2, 0, none⟩ = some (.int .u64 (p : Int)) ∧ W.cell? ⟨w.heap.size + 2, 1, none⟩ = some (.int .u64 (q : Int))) ∧ (W.cell? ⟨w.heap.size + 3, 0, none⟩ = some (.int .u64 (x : Int)) ∧ W.cell? ⟨w.heap.size + 3, 1, none⟩ = some (.int .u64 (y : Int))) ∧ (W.cell? ⟨ga, 0, none⟩ = some (.int .u64 (p : Int)) ∧ W.cell? ⟨ga, 1, none⟩ = some (.int .u64 (q : Int))) ∧ (W.cell? ⟨gb, 0, none⟩ = some (.int .u64 (x : Int)) ∧ W.cell? ⟨gb, 1, none⟩ = some (.int .u64 (y : Int))) ∧ Below w.heap.size w W ∧ Below w5.heap.size w5 W) := fun W' hW' => by
                obtain ⟨k1, k2, k3, k4, k5, k6, -, k8, k9⟩ := HXW.out W' (hbX.trans (hW'.mono hbX.size))
                exact ⟨k1, k2, k3, k4, k5, k6, two_cells ((hW'.block _ (lt_of_blk hr9)).trans hr9), two_cells ((hW'.block _ (lt_of_blk hr10)).trans hr10), k8, k9⟩
              clear hr9 hr10 hu1 hu2 hr1 hr2 hg9 hg10 hbX HXW
              go_upto_region 17 with (fail)
              obtain ⟨zz, hzd⟩ : ∃ zz : Bool, decide (p = 0 ∧ q = 0) = zz := ⟨_, rfl⟩
              have UB : Hid (∀ W, Calls Tryz.prog 28 #[.agg #[.int .u64 (p : Int), .int .u64 (q : Int)]] W fun e w' => e = .returned (.bool zz) ∧ Below W.heap.size W w') := fun W => by have h := unborn5_any p q W; rw [hzd] at h; exact h
              by_cases hpz : p = 0
              · have hp0 : ((p : Int) == 0) = true := by simp [hpz]
                have hq0 : ((q : Int) == 0) = zz := by rw [← hzd]; rw [Bool.eq_iff_iff]; simp [hpz]
                clear hpz
                refine wp_region_midG (N := 136) (fun i v ww => ([fun v ww => v = .agg #[xa0, xa1, xa2, xa3, xa4, xa5, xa6, xa7, xa8, xa9, xa10], fun v ww => v = .agg #[xo0, xo1, xo2, xo3, xo4, xo5, xo6, xo7, xo8, xo9, xo10], fun v ww => v = .bool sb, fun v ww => v = .agg #[xu0, xu1, xu2, xu3, xu4, xu5, xu6, xu7, xu8, xu9, xu10], fun v ww => v = .agg #[xs0, xs1, xs2, xs3, xs4, xs5, xs6, xs7, xs8, xs9, xs10], fun v ww => v = .bool sb, fun v ww => v = .bool true, fun v ww => v = .bool true, fun v ww => v = .agg #[xa0, xa1, xa2, xa3, xa4, xa5, xa6, xa7, xa8, xa9, xa10], fun v ww => ∃ uv, v = uv ∧ Hid (∀ W', Below ww.heap.size ww W' → Calls Tryz.prog 21 #[uv, .agg #[xu0, xu1, xu2, xu3, xu4, xu5, xu6, xu7, xu8, xu9, xu10]] W' fun e w'' => e = .returned (.bool true) ∧ Below W'.heap.size W' w''), fun v ww => v = .agg #[xu0, xu1, xu2, xu3, xu4, xu5, xu6, xu7, xu8, xu9, xu10], fun v ww => v = .bool true, fun v ww => v = .bool true, fun v ww => v = .bool true, fun v ww => v = .agg #[.int .u64 (p : Int), .int .u64 (q : Int)], fun v ww => v = .agg #[.int .u64 (x : Int), .int .u64 (y : Int)], fun v ww => v = .int .i64 (cmpV p q x y), fun v ww => v = .agg #[.int .u64 (p : Int), .int .u64 (q : Int)], fun v ww => v = .agg #[.int .u64 (x : Int), .int .u64 (y : Int)], fun v ww => v = .int .i64 (cmpV p q x y), fun v ww => v = .bool true, fun v ww => v = .bool true, fun v ww => v = .bool true, fun v ww => v = .agg #[.int .u64 (p : Int), .int .u64 (q : Int)], fun v ww => v = .string ⟨(verL p q).toArray⟩, fun v ww => v = .agg #[.int .u64 (p : Int), .int .u64 (q : Int)], fun v ww => v = .string ⟨(verL p q).toArray⟩, fun v ww => v = .bool true, fun v ww => v = .bool true, fun v ww => v = .bool true, fun v ww => v = .agg #[.int .u64 (p : Int), .int .u64 (q : Int)], fun v ww => v = .bool zz, fun v ww => v = .pointer (some ⟨w.heap.size + 2, 0, none⟩), fun v ww => v = .int .u64 (p : Int), fun v ww => v = .bool true, fun v ww => v = .bool true, fun v ww => v = .pointer (some ⟨w.heap.size + 2, 1, none⟩), fun v ww => v = .int .u64 (q : Int), fun v ww => v = .bool zz, fun v ww => v = .bool zz, fun v ww => v = .bool true, fun v ww => v = .bool true, fun v ww => v = .bool true, fun v ww => v = .bool true, fun v ww => v = .bool true, fun v ww => v = .bool true] : List (Value → World → Prop)).getD i (fun _ _ => True) v ww) (by kernel_rfl) (by kernel_rfl) rfl ?_ ?_ ?_
                · intro i v wa wb h0 hb hp
                  by_cases hi : i < 46
                  · have hcase : i = 0 ∨ i = 1 ∨ i = 2 ∨ i = 3 ∨ i = 4 ∨ i = 5 ∨ i = 6 ∨ i = 7 ∨ i = 8 ∨ i = 9 ∨ i = 10 ∨ i = 11 ∨ i = 12 ∨ i = 13 ∨ i = 14 ∨ i = 15 ∨ i = 16 ∨ i = 17 ∨ i = 18 ∨ i = 19 ∨ i = 20 ∨ i = 21 ∨ i = 22 ∨ i = 23 ∨ i = 24 ∨ i = 25 ∨ i = 26 ∨ i = 27 ∨ i = 28 ∨ i = 29 ∨ i = 30 ∨ i = 31 ∨ i = 32 ∨ i = 33 ∨ i = 34 ∨ i = 35 ∨ i = 36 ∨ i = 37 ∨ i = 38 ∨ i = 39 ∨ i = 40 ∨ i = 41 ∨ i = 42 ∨ i = 43 ∨ i = 44 ∨ i = 45 := by omega
                    rcases hcase with rfl | rfl | rfl | rfl | rfl | rfl | rfl | rfl | rfl | rfl | rfl | rfl | rfl | rfl | rfl | rfl | rfl | rfl | rfl | rfl | rfl | rfl | rfl | rfl | rfl | rfl | rfl | rfl | rfl | rfl | rfl | rfl | rfl | rfl | rfl | rfl | rfl | rfl | rfl | rfl | rfl | rfl | rfl | rfl | rfl | rfl
                    · exact hp
                    · exact hp
                    · exact hp
                    · exact hp
                    · exact hp
                    · exact hp
                    · exact hp
                    · exact hp
                    · exact hp
                    · obtain ⟨uv, e, ks⟩ := hp
                      exact ⟨uv, e, Lib_hid fun W' hW' => ks.out W' (hb.trans (hW'.mono hb.size))⟩
                    · exact hp
                    · exact hp
                    · exact hp
                    · exact hp
                    · exact hp
                    · exact hp
                    · exact hp
                    · exact hp
                    · exact hp
                    · exact hp
                    · exact hp
                    · exact hp
                    · exact hp
                    · exact hp
                    · exact hp
                    · exact hp
                    · exact hp
                    · exact hp
                    · exact hp
                    · exact hp
                    · exact hp
                    · exact hp
                    · exact hp
                    · exact hp
                    · exact hp
                    · exact hp
                    · exact hp
                    · exact hp
                    · exact hp
                    · exact hp
                    · exact hp
                    · exact hp
                    · exact hp
                    · exact hp
                    · exact hp
                    · exact hp
                  · have hnn : ([fun v ww => v = .agg #[xa0, xa1, xa2, xa3, xa4, xa5, xa6, xa7, xa8, xa9, xa10], fun v ww => v = .agg #[xo0, xo1, xo2, xo3, xo4, xo5, xo6, xo7, xo8, xo9, xo10], fun v ww => v = .bool sb, fun v ww => v = .agg #[xu0, xu1, xu2, xu3, xu4, xu5, xu6, xu7, xu8, xu9, xu10], fun v ww => v = .agg #[xs0, xs1, xs2, xs3, xs4, xs5, xs6, xs7, xs8, xs9, xs10], fun v ww => v = .bool sb, fun v ww => v = .bool true, fun v ww => v = .bool true, fun v ww => v = .agg #[xa0, xa1, xa2, xa3, xa4, xa5, xa6, xa7, xa8, xa9, xa10], fun v ww => ∃ uv, v = uv ∧ Hid (∀ W', Below ww.heap.size ww W' → Calls Tryz.prog 21 #[uv, .agg #[xu0, xu1, xu2, xu3, xu4, xu5, xu6, xu7, xu8, xu9, xu10]] W' fun e w'' => e = .returned (.bool true) ∧ Below W'.heap.size W' w''), fun v ww => v = .agg #[xu0, xu1, xu2, xu3, xu4, xu5, xu6, xu7, xu8, xu9, xu10], fun v ww => v = .bool true, fun v ww => v = .bool true, fun v ww => v = .bool true, fun v ww => v = .agg #[.int .u64 (p : Int), .int .u64 (q : Int)], fun v ww => v = .agg #[.int .u64 (x : Int), .int .u64 (y : Int)], fun v ww => v = .int .i64 (cmpV p q x y), fun v ww => v = .agg #[.int .u64 (p : Int), .int .u64 (q : Int)], fun v ww => v = .agg #[.int .u64 (x : Int), .int .u64 (y : Int)], fun v ww => v = .int .i64 (cmpV p q x y), fun v ww => v = .bool true, fun v ww => v = .bool true, fun v ww => v = .bool true, fun v ww => v = .agg #[.int .u64 (p : Int), .int .u64 (q : Int)], fun v ww => v = .string ⟨(verL p q).toArray⟩, fun v ww => v = .agg #[.int .u64 (p : Int), .int .u64 (q : Int)], fun v ww => v = .string ⟨(verL p q).toArray⟩, fun v ww => v = .bool true, fun v ww => v = .bool true, fun v ww => v = .bool true, fun v ww => v = .agg #[.int .u64 (p : Int), .int .u64 (q : Int)], fun v ww => v = .bool zz, fun v ww => v = .pointer (some ⟨w.heap.size + 2, 0, none⟩), fun v ww => v = .int .u64 (p : Int), fun v ww => v = .bool true, fun v ww => v = .bool true, fun v ww => v = .pointer (some ⟨w.heap.size + 2, 1, none⟩), fun v ww => v = .int .u64 (q : Int), fun v ww => v = .bool zz, fun v ww => v = .bool zz, fun v ww => v = .bool true, fun v ww => v = .bool true, fun v ww => v = .bool true, fun v ww => v = .bool true, fun v ww => v = .bool true, fun v ww => v = .bool true] : List (Value → World → Prop))[i]? = none := List.getElem?_eq_none (by simpa using hi)
                    rw [List.getD_eq_getElem?_getD, hnn]
                    trivial
                · intro i o a wx hi hM hD
                  have hi8 : i < 46 := (Array.getElem?_eq_some_iff.1 hi).1
                  have hcase : i = 0 ∨ i = 1 ∨ i = 2 ∨ i = 3 ∨ i = 4 ∨ i = 5 ∨ i = 6 ∨ i = 7 ∨ i = 8 ∨ i = 9 ∨ i = 10 ∨ i = 11 ∨ i = 12 ∨ i = 13 ∨ i = 14 ∨ i = 15 ∨ i = 16 ∨ i = 17 ∨ i = 18 ∨ i = 19 ∨ i = 20 ∨ i = 21 ∨ i = 22 ∨ i = 23 ∨ i = 24 ∨ i = 25 ∨ i = 26 ∨ i = 27 ∨ i = 28 ∨ i = 29 ∨ i = 30 ∨ i = 31 ∨ i = 32 ∨ i = 33 ∨ i = 34 ∨ i = 35 ∨ i = 36 ∨ i = 37 ∨ i = 38 ∨ i = 39 ∨ i = 40 ∨ i = 41 ∨ i = 42 ∨ i = 43 ∨ i = 44 ∨ i = 45 := by omega
                  clear hi8
                  rcases hcase with rfl | rfl | rfl | rfl | rfl | rfl | rfl | rfl | rfl | rfl | rfl | rfl | rfl | rfl | rfl | rfl | rfl | rfl | rfl | rfl | rfl | rfl | rfl | rfl | rfl | rfl | rfl | rfl | rfl | rfl | rfl | rfl | rfl | rfl | rfl | rfl | rfl | rfl | rfl | rfl | rfl | rfl | rfl | rfl | rfl | rfl
                  · obtain rfl := Option.some.inj hi
                    have e4 : a.tmps.getD 4 undef = .pointer (some ⟨w.heap.size, 0, none⟩) := (hM.other 4 (by decide +kernel)).trans rfl
                    obtain ⟨K1, K2, K3, K4, K5, K6, K7, K8, K9, K10⟩ := HXZ.out wx hM.below
                    obtain ⟨c0, c1, c2, c3, c4, c5, c6, c7, c8, c9, c10⟩ := K1
                    refine .inl ⟨rfl, mid_step (.agg #[xa0, xa1, xa2, xa3, xa4, xa5, xa6, xa7, xa8, xa9, xa10]) wx (fun K hK => ?_) ⟨_, rfl, rfl, Below.refl _ _⟩⟩
                    go_simp
                    first | exact hK | simpa using hK
                  · obtain rfl := Option.some.inj hi
                    have e5 : a.tmps.getD 5 undef = .pointer (some ⟨w.heap.size + 1, 0, none⟩) := (hM.other 5 (by decide +kernel)).trans rfl
                    obtain ⟨K1, K2, K3, K4, K5, K6, K7, K8, K9, K10⟩ := HXZ.out wx hM.below
                    obtain ⟨c0, c1, c2, c3, c4, c5, c6, c7, c8, c9, c10⟩ := K2
                    refine .inl ⟨rfl, mid_step (.agg #[xo0, xo1, xo2, xo3, xo4, xo5, xo6, xo7, xo8, xo9, xo10]) wx (fun K hK => ?_) ⟨_, rfl, rfl, Below.refl _ _⟩⟩
                    go_simp
                    first | exact hK | simpa using hK
                  · obtain rfl := Option.some.inj hi
                    have e91 : a.tmps.getD 91 undef = .agg #[xa0, xa1, xa2, xa3, xa4, xa5, xa6, xa7, xa8, xa9, xa10] := hD 0 (by kernel_rfl) _ 91 rfl rfl
                    have e92 : a.tmps.getD 92 undef = .agg #[xo0, xo1, xo2, xo3, xo4, xo5, xo6, xo7, xo8, xo9, xo10] := hD 1 (by kernel_rfl) _ 92 rfl rfl
                    obtain ⟨K1, K2, K3, K4, K5, K6, K7, K8, K9, K10⟩ := HXZ.out wx hM.below
                    refine .inl ⟨rfl, mid_call (fun v w' => v = .bool sb ∧ Below wx.heap.size wx w') (fun K hK => ?_) (fun v w' h => ⟨v, rfl, h.1, h.2⟩)⟩
                    go_simp
                    refine (SMo.out wx K9).mono ?_
                    rintro e w' ⟨rfl, hb'⟩
                    exact hK _ _ ⟨rfl, hb'⟩
                  · obtain rfl := Option.some.inj hi
                    have e9 : a.tmps.getD 9 undef = .pointer (some ⟨g9, 0, none⟩) := (hM.other 9 (by decide +kernel)).trans rfl
                    obtain ⟨K1, K2, K3, K4, K5, K6, K7, K8, K9, K10⟩ := HXZ.out wx hM.below
                    obtain ⟨c0, c1, c2, c3, c4, c5, c6, c7, c8, c9, c10⟩ := K3
                    refine .inl ⟨rfl, mid_step (.agg #[xu0, xu1, xu2, xu3, xu4, xu5, xu6, xu7, xu8, xu9, xu10]) wx (fun K hK => ?_) ⟨_, rfl, rfl, Below.refl _ _⟩⟩
                    go_simp
                    first | exact hK | simpa using hK
                  · obtain rfl := Option.some.inj hi
                    have e10 : a.tmps.getD 10 undef = .pointer (some ⟨g10, 0, none⟩) := (hM.other 10 (by decide +kernel)).trans rfl
                    obtain ⟨K1, K2, K3, K4, K5, K6, K7, K8, K9, K10⟩ := HXZ.out wx hM.below
                    obtain ⟨c0, c1, c2, c3, c4, c5, c6, c7, c8, c9, c10⟩ := K4
                    refine .inl ⟨rfl, mid_step (.agg #[xs0, xs1, xs2, xs3, xs4, xs5, xs6, xs7, xs8, xs9, xs10]) wx (fun K hK => ?_) ⟨_, rfl, rfl, Below.refl _ _⟩⟩
                    go_simp
                    first | exact hK | simpa using hK
                  · obtain rfl := Option.some.inj hi
                    have e94 : a.tmps.getD 94 undef = .agg #[xu0, xu1, xu2, xu3, xu4, xu5, xu6, xu7, xu8, xu9, xu10] := hD 3 (by kernel_rfl) _ 94 rfl rfl
                    have e95 : a.tmps.getD 95 undef = .agg #[xs0, xs1, xs2, xs3, xs4, xs5, xs6, xs7, xs8, xs9, xs10] := hD 4 (by kernel_rfl) _ 95 rfl rfl
                    obtain ⟨K1, K2, K3, K4, K5, K6, K7, K8, K9, K10⟩ := HXZ.out wx hM.below
                    refine .inl ⟨rfl, mid_call (fun v w' => v = .bool sb ∧ Below wx.heap.size wx w') (fun K hK => ?_) (fun v w' h => ⟨v, rfl, h.1, h.2⟩)⟩
                    go_simp
                    refine (DXY.out wx K10).mono ?_
                    rintro e w' ⟨rfl, hb'⟩
                    exact hK _ _ ⟨rfl, hb'⟩
                  · obtain rfl := Option.some.inj hi
                    have e93 : a.tmps.getD 93 undef = .bool sb := hD 2 (by kernel_rfl) _ 93 rfl rfl
                    have e96 : a.tmps.getD 96 undef = .bool sb := hD 5 (by kernel_rfl) _ 96 rfl rfl
                    have hsbb : (sb == sb) = true := by simp
                    refine .inl ⟨rfl, mid_step (.bool true) wx (fun K hK => ?_) ⟨_, rfl, rfl, Below.refl _ _⟩⟩
                    go_simp
                    first | exact hK | simpa using hK
                  · obtain rfl := Option.some.inj hi
                    have e97 : a.tmps.getD 97 undef = .bool true := hD 6 (by kernel_rfl) _ 97 rfl rfl
                    refine .inl ⟨rfl, mid_step (.bool true) wx (fun K hK => ?_) ⟨_, rfl, rfl, Below.refl _ _⟩⟩
                    go_simp
                    first | exact hK | simpa using hK
                  · obtain rfl := Option.some.inj hi
                    have e4 : a.tmps.getD 4 undef = .pointer (some ⟨w.heap.size, 0, none⟩) := (hM.other 4 (by decide +kernel)).trans rfl
                    obtain ⟨K1, K2, K3, K4, K5, K6, K7, K8, K9, K10⟩ := HXZ.out wx hM.below
                    obtain ⟨c0, c1, c2, c3, c4, c5, c6, c7, c8, c9, c10⟩ := K1
                    refine .inl ⟨wanted_yes 7 98 rfl rfl rfl (hD 7 (by kernel_rfl) _ 98 rfl rfl), mid_step (.agg #[xa0, xa1, xa2, xa3, xa4, xa5, xa6, xa7, xa8, xa9, xa10]) wx (fun K hK => ?_) ⟨_, rfl, rfl, Below.refl _ _⟩⟩
                    go_simp
                    first | exact hK | simpa using hK
                  · obtain rfl := Option.some.inj hi
                    have e99 : a.tmps.getD 99 undef = .agg #[xa0, xa1, xa2, xa3, xa4, xa5, xa6, xa7, xa8, xa9, xa10] := hD 8 (by kernel_rfl) _ 99 rfl rfl
                    obtain ⟨K1, K2, K3, K4, K5, K6, K7, K8, K9, K10⟩ := HXZ.out wx hM.below
                    refine .inl ⟨wanted_yes 7 98 rfl rfl rfl (hD 7 (by kernel_rfl) _ 98 rfl rfl), mid_call (fun v w' => (∃ uv, v = uv ∧ Hid (∀ W', Below w'.heap.size w' W' → Calls Tryz.prog 21 #[uv, .agg #[xu0, xu1, xu2, xu3, xu4, xu5, xu6, xu7, xu8, xu9, xu10]] W' fun e w'' => e = .returned (.bool true) ∧ Below W'.heap.size W' w'')) ∧ Below wx.heap.size wx w') (fun K hK => ?_) (fun v w' h => ⟨v, rfl, h.1, h.2⟩)⟩
                    go_simp
                    refine (DSA.out wx K10).mono ?_
                    rintro e w' ⟨uv, rfl, ks, hb'⟩
                    exact hK _ _ ⟨⟨uv, rfl, ks⟩, hb'⟩
                  · obtain rfl := Option.some.inj hi
                    have e9 : a.tmps.getD 9 undef = .pointer (some ⟨g9, 0, none⟩) := (hM.other 9 (by decide +kernel)).trans rfl
                    obtain ⟨K1, K2, K3, K4, K5, K6, K7, K8, K9, K10⟩ := HXZ.out wx hM.below
                    obtain ⟨c0, c1, c2, c3, c4, c5, c6, c7, c8, c9, c10⟩ := K3
                    refine .inl ⟨wanted_yes 7 98 rfl rfl rfl (hD 7 (by kernel_rfl) _ 98 rfl rfl), mid_step (.agg #[xu0, xu1, xu2, xu3, xu4, xu5, xu6, xu7, xu8, xu9, xu10]) wx (fun K hK => ?_) ⟨_, rfl, rfl, Below.refl _ _⟩⟩
                    go_simp
                    first | exact hK | simpa using hK
                  · obtain rfl := Option.some.inj hi
                    obtain ⟨uv, e100, ks⟩ := hD 9 (by kernel_rfl) _ 100 rfl rfl
                    have e101 : a.tmps.getD 101 undef = .agg #[xu0, xu1, xu2, xu3, xu4, xu5, xu6, xu7, xu8, xu9, xu10] := hD 10 (by kernel_rfl) _ 101 rfl rfl
                    refine .inl ⟨wanted_yes 7 98 rfl rfl rfl (hD 7 (by kernel_rfl) _ 98 rfl rfl), mid_call (fun v w' => v = .bool true ∧ Below wx.heap.size wx w') (fun K hK => ?_) (fun v w' h => ⟨v, rfl, h.1, h.2⟩)⟩
                    go_simp
                    refine (ks.out wx (Below.refl _ _)).mono ?_
                    rintro e w' ⟨rfl, hb'⟩
                    exact hK _ _ ⟨rfl, hb'⟩
                  · obtain rfl := Option.some.inj hi
                    have e98 : a.tmps.getD 98 undef = .bool true := hD 7 (by kernel_rfl) _ 98 rfl rfl
                    have e102 : a.tmps.getD 102 undef = .bool true := hD 11 (by kernel_rfl) _ 102 rfl rfl
                    refine .inl ⟨rfl, mid_step (.bool true) wx (fun K hK => ?_) ⟨_, rfl, rfl, Below.refl _ _⟩⟩
                    go_simp
                    first | exact hK | simpa using hK
                  · obtain rfl := Option.some.inj hi
                    have e103 : a.tmps.getD 103 undef = .bool true := hD 12 (by kernel_rfl) _ 103 rfl rfl
                    refine .inl ⟨rfl, mid_step (.bool true) wx (fun K hK => ?_) ⟨_, rfl, rfl, Below.refl _ _⟩⟩
                    go_simp
                    first | exact hK | simpa using hK
                  · obtain rfl := Option.some.inj hi
                    have e6 : a.tmps.getD 6 undef = .pointer (some ⟨w.heap.size + 2, 0, none⟩) := (hM.other 6 (by decide +kernel)).trans rfl
                    obtain ⟨K1, K2, K3, K4, K5, K6, K7, K8, K9, K10⟩ := HXZ.out wx hM.below
                    obtain ⟨c0, c1⟩ := K5
                    refine .inl ⟨wanted_yes 13 104 rfl rfl rfl (hD 13 (by kernel_rfl) _ 104 rfl rfl), mid_step (.agg #[.int .u64 (p : Int), .int .u64 (q : Int)]) wx (fun K hK => ?_) ⟨_, rfl, rfl, Below.refl _ _⟩⟩
                    go_simp
                    first | exact hK | simpa using hK
                  · obtain rfl := Option.some.inj hi
                    have e7 : a.tmps.getD 7 undef = .pointer (some ⟨w.heap.size + 3, 0, none⟩) := (hM.other 7 (by decide +kernel)).trans rfl
                    obtain ⟨K1, K2, K3, K4, K5, K6, K7, K8, K9, K10⟩ := HXZ.out wx hM.below
                    obtain ⟨c0, c1⟩ := K6
                    refine .inl ⟨wanted_yes 13 104 rfl rfl rfl (hD 13 (by kernel_rfl) _ 104 rfl rfl), mid_step (.agg #[.int .u64 (x : Int), .int .u64 (y : Int)]) wx (fun K hK => ?_) ⟨_, rfl, rfl, Below.refl _ _⟩⟩
                    go_simp
                    first | exact hK | simpa using hK
                  · obtain rfl := Option.some.inj hi
                    have e105 : a.tmps.getD 105 undef = .agg #[.int .u64 (p : Int), .int .u64 (q : Int)] := hD 14 (by kernel_rfl) _ 105 rfl rfl
                    have e106 : a.tmps.getD 106 undef = .agg #[.int .u64 (x : Int), .int .u64 (y : Int)] := hD 15 (by kernel_rfl) _ 106 rfl rfl
                    obtain ⟨K1, K2, K3, K4, K5, K6, K7, K8, K9, K10⟩ := HXZ.out wx hM.below
                    refine .inl ⟨wanted_yes 13 104 rfl rfl rfl (hD 13 (by kernel_rfl) _ 104 rfl rfl), mid_call (fun v w' => v = .int .i64 (cmpV p q x y) ∧ Below wx.heap.size wx w') (fun K hK => ?_) (fun v w' h => ⟨v, rfl, h.1, h.2⟩)⟩
                    go_simp
                    refine (vcmp5_any p q x y wx).mono ?_
                    rintro e w' ⟨rfl, hb'⟩
                    exact hK _ _ ⟨rfl, hb'⟩
                  · obtain rfl := Option.some.inj hi
                    have e17 : a.tmps.getD 17 undef = .pointer (some ⟨ga, 0, none⟩) := (hM.other 17 (by decide +kernel)).trans rfl
                    obtain ⟨K1, K2, K3, K4, K5, K6, K7, K8, K9, K10⟩ := HXZ.out wx hM.below
                    obtain ⟨c0, c1⟩ := K7
                    refine .inl ⟨wanted_yes 13 104 rfl rfl rfl (hD 13 (by kernel_rfl) _ 104 rfl rfl), mid_step (.agg #[.int .u64 (p : Int), .int .u64 (q : Int)]) wx (fun K hK => ?_) ⟨_, rfl, rfl, Below.refl _ _⟩⟩
                    go_simp
                    first | exact hK | simpa using hK
                  · obtain rfl := Option.some.inj hi
                    have e18 : a.tmps.getD 18 undef = .pointer (some ⟨gb, 0, none⟩) := (hM.other 18 (by decide +kernel)).trans rfl
                    obtain ⟨K1, K2, K3, K4, K5, K6, K7, K8, K9, K10⟩ := HXZ.out wx hM.below
                    obtain ⟨c0, c1⟩ := K8
                    refine .inl ⟨wanted_yes 13 104 rfl rfl rfl (hD 13 (by kernel_rfl) _ 104 rfl rfl), mid_step (.agg #[.int .u64 (x : Int), .int .u64 (y : Int)]) wx (fun K hK => ?_) ⟨_, rfl, rfl, Below.refl _ _⟩⟩
                    go_simp
                    first | exact hK | simpa using hK
                  · obtain rfl := Option.some.inj hi
                    have e108 : a.tmps.getD 108 undef = .agg #[.int .u64 (p : Int), .int .u64 (q : Int)] := hD 17 (by kernel_rfl) _ 108 rfl rfl
                    have e109 : a.tmps.getD 109 undef = .agg #[.int .u64 (x : Int), .int .u64 (y : Int)] := hD 18 (by kernel_rfl) _ 109 rfl rfl
                    obtain ⟨K1, K2, K3, K4, K5, K6, K7, K8, K9, K10⟩ := HXZ.out wx hM.below
                    refine .inl ⟨wanted_yes 13 104 rfl rfl rfl (hD 13 (by kernel_rfl) _ 104 rfl rfl), mid_call (fun v w' => v = .int .i64 (cmpV p q x y) ∧ Below wx.heap.size wx w') (fun K hK => ?_) (fun v w' h => ⟨v, rfl, h.1, h.2⟩)⟩
                    go_simp
                    refine (rcmp5_any p q x y wx).mono ?_
                    rintro e w' ⟨rfl, hb'⟩
                    exact hK _ _ ⟨rfl, hb'⟩
                  · obtain rfl := Option.some.inj hi
                    have e107 : a.tmps.getD 107 undef = .int .i64 (cmpV p q x y) := hD 16 (by kernel_rfl) _ 107 rfl rfl
                    have e110 : a.tmps.getD 110 undef = .int .i64 (cmpV p q x y) := hD 19 (by kernel_rfl) _ 110 rfl rfl
                    have hcb : (cmpV p q x y == cmpV p q x y) = true := by simp
                    refine .inl ⟨wanted_yes 13 104 rfl rfl rfl (hD 13 (by kernel_rfl) _ 104 rfl rfl), mid_step (.bool true) wx (fun K hK => ?_) ⟨_, rfl, rfl, Below.refl _ _⟩⟩
                    go_simp
                    first | exact hK | simpa using hK
                  · obtain rfl := Option.some.inj hi
                    have e104 : a.tmps.getD 104 undef = .bool true := hD 13 (by kernel_rfl) _ 104 rfl rfl
                    have e111 : a.tmps.getD 111 undef = .bool true := hD 20 (by kernel_rfl) _ 111 rfl rfl
                    refine .inl ⟨rfl, mid_step (.bool true) wx (fun K hK => ?_) ⟨_, rfl, rfl, Below.refl _ _⟩⟩
                    go_simp
                    first | exact hK | simpa using hK
                  · obtain rfl := Option.some.inj hi
                    have e112 : a.tmps.getD 112 undef = .bool true := hD 21 (by kernel_rfl) _ 112 rfl rfl
                    refine .inl ⟨rfl, mid_step (.bool true) wx (fun K hK => ?_) ⟨_, rfl, rfl, Below.refl _ _⟩⟩
                    go_simp
                    first | exact hK | simpa using hK
                  · obtain rfl := Option.some.inj hi
                    have e6 : a.tmps.getD 6 undef = .pointer (some ⟨w.heap.size + 2, 0, none⟩) := (hM.other 6 (by decide +kernel)).trans rfl
                    obtain ⟨K1, K2, K3, K4, K5, K6, K7, K8, K9, K10⟩ := HXZ.out wx hM.below
                    obtain ⟨c0, c1⟩ := K5
                    refine .inl ⟨wanted_yes 22 113 rfl rfl rfl (hD 22 (by kernel_rfl) _ 113 rfl rfl), mid_step (.agg #[.int .u64 (p : Int), .int .u64 (q : Int)]) wx (fun K hK => ?_) ⟨_, rfl, rfl, Below.refl _ _⟩⟩
                    go_simp
                    first | exact hK | simpa using hK
                  · obtain rfl := Option.some.inj hi
                    have e114 : a.tmps.getD 114 undef = .agg #[.int .u64 (p : Int), .int .u64 (q : Int)] := hD 23 (by kernel_rfl) _ 114 rfl rfl
                    obtain ⟨K1, K2, K3, K4, K5, K6, K7, K8, K9, K10⟩ := HXZ.out wx hM.below
                    refine .inl ⟨wanted_yes 22 113 rfl rfl rfl (hD 22 (by kernel_rfl) _ 113 rfl rfl), mid_call (fun v w' => v = .string ⟨(verL p q).toArray⟩ ∧ Below wx.heap.size wx w') (fun K hK => ?_) (fun v w' h => ⟨v, rfl, h.1, h.2⟩)⟩
                    go_simp
                    refine (VT.out wx K9).mono ?_
                    rintro e w' ⟨rfl, hb'⟩
                    exact hK _ _ ⟨rfl, hb'⟩
                  · obtain rfl := Option.some.inj hi
                    have e17 : a.tmps.getD 17 undef = .pointer (some ⟨ga, 0, none⟩) := (hM.other 17 (by decide +kernel)).trans rfl
                    obtain ⟨K1, K2, K3, K4, K5, K6, K7, K8, K9, K10⟩ := HXZ.out wx hM.below
                    obtain ⟨c0, c1⟩ := K7
                    refine .inl ⟨wanted_yes 22 113 rfl rfl rfl (hD 22 (by kernel_rfl) _ 113 rfl rfl), mid_step (.agg #[.int .u64 (p : Int), .int .u64 (q : Int)]) wx (fun K hK => ?_) ⟨_, rfl, rfl, Below.refl _ _⟩⟩
                    go_simp
                    first | exact hK | simpa using hK
                  · obtain rfl := Option.some.inj hi
                    have e116 : a.tmps.getD 116 undef = .agg #[.int .u64 (p : Int), .int .u64 (q : Int)] := hD 25 (by kernel_rfl) _ 116 rfl rfl
                    obtain ⟨K1, K2, K3, K4, K5, K6, K7, K8, K9, K10⟩ := HXZ.out wx hM.below
                    refine .inl ⟨wanted_yes 22 113 rfl rfl rfl (hD 22 (by kernel_rfl) _ 113 rfl rfl), mid_call (fun v w' => v = .string ⟨(verL p q).toArray⟩ ∧ Below wx.heap.size wx w') (fun K hK => ?_) (fun v w' h => ⟨v, rfl, h.1, h.2⟩)⟩
                    go_simp
                    refine (rtold5_any p q wx hp hq).mono ?_
                    rintro e w' ⟨rfl, hb'⟩
                    exact hK _ _ ⟨rfl, hb'⟩
                  · obtain rfl := Option.some.inj hi
                    have e115 : a.tmps.getD 115 undef = .string ⟨(verL p q).toArray⟩ := hD 24 (by kernel_rfl) _ 115 rfl rfl
                    have e117 : a.tmps.getD 117 undef = .string ⟨(verL p q).toArray⟩ := hD 26 (by kernel_rfl) _ 117 rfl rfl
                    have hvb : ((verL p q) == (verL p q)) = true := by simp
                    refine .inl ⟨wanted_yes 22 113 rfl rfl rfl (hD 22 (by kernel_rfl) _ 113 rfl rfl), mid_step (.bool true) wx (fun K hK => ?_) ⟨_, rfl, rfl, Below.refl _ _⟩⟩
                    go_simp
                    first | exact hK | simpa using hK
                  · obtain rfl := Option.some.inj hi
                    have e113 : a.tmps.getD 113 undef = .bool true := hD 22 (by kernel_rfl) _ 113 rfl rfl
                    have e118 : a.tmps.getD 118 undef = .bool true := hD 27 (by kernel_rfl) _ 118 rfl rfl
                    refine .inl ⟨rfl, mid_step (.bool true) wx (fun K hK => ?_) ⟨_, rfl, rfl, Below.refl _ _⟩⟩
                    go_simp
                    first | exact hK | simpa using hK
                  · obtain rfl := Option.some.inj hi
                    have e119 : a.tmps.getD 119 undef = .bool true := hD 28 (by kernel_rfl) _ 119 rfl rfl
                    refine .inl ⟨rfl, mid_step (.bool true) wx (fun K hK => ?_) ⟨_, rfl, rfl, Below.refl _ _⟩⟩
                    go_simp
                    first | exact hK | simpa using hK
                  · obtain rfl := Option.some.inj hi
                    have e6 : a.tmps.getD 6 undef = .pointer (some ⟨w.heap.size + 2, 0, none⟩) := (hM.other 6 (by decide +kernel)).trans rfl
                    obtain ⟨K1, K2, K3, K4, K5, K6, K7, K8, K9, K10⟩ := HXZ.out wx hM.below
                    obtain ⟨c0, c1⟩ := K5
                    refine .inl ⟨wanted_yes 29 120 rfl rfl rfl (hD 29 (by kernel_rfl) _ 120 rfl rfl), mid_step (.agg #[.int .u64 (p : Int), .int .u64 (q : Int)]) wx (fun K hK => ?_) ⟨_, rfl, rfl, Below.refl _ _⟩⟩
                    go_simp
                    first | exact hK | simpa using hK
                  · obtain rfl := Option.some.inj hi
                    have e121 : a.tmps.getD 121 undef = .agg #[.int .u64 (p : Int), .int .u64 (q : Int)] := hD 30 (by kernel_rfl) _ 121 rfl rfl
                    obtain ⟨K1, K2, K3, K4, K5, K6, K7, K8, K9, K10⟩ := HXZ.out wx hM.below
                    refine .inl ⟨wanted_yes 29 120 rfl rfl rfl (hD 29 (by kernel_rfl) _ 120 rfl rfl), mid_call (fun v w' => v = .bool zz ∧ Below wx.heap.size wx w') (fun K hK => ?_) (fun v w' h => ⟨v, rfl, h.1, h.2⟩)⟩
                    go_simp
                    refine (UB.out wx).mono ?_
                    rintro e w' ⟨rfl, hb'⟩
                    exact hK _ _ ⟨rfl, hb'⟩
                  · obtain rfl := Option.some.inj hi
                    have e6 : a.tmps.getD 6 undef = .pointer (some ⟨w.heap.size + 2, 0, none⟩) := (hM.other 6 (by decide +kernel)).trans rfl
                    refine .inl ⟨wanted_yes 29 120 rfl rfl rfl (hD 29 (by kernel_rfl) _ 120 rfl rfl), mid_step (.pointer (some ⟨w.heap.size + 2, 0, none⟩)) wx (fun K hK => ?_) ⟨_, rfl, rfl, Below.refl _ _⟩⟩
                    go_simp
                    first | exact hK | simpa using hK
                  · obtain rfl := Option.some.inj hi
                    have e123 : a.tmps.getD 123 undef = .pointer (some ⟨w.heap.size + 2, 0, none⟩) := hD 32 (by kernel_rfl) _ 123 rfl rfl
                    obtain ⟨K1, K2, K3, K4, K5, K6, K7, K8, K9, K10⟩ := HXZ.out wx hM.below
                    obtain ⟨c0, c1⟩ := K5
                    refine .inl ⟨wanted_yes 29 120 rfl rfl rfl (hD 29 (by kernel_rfl) _ 120 rfl rfl), mid_step (.int .u64 (p : Int)) wx (fun K hK => ?_) ⟨_, rfl, rfl, Below.refl _ _⟩⟩
                    go_simp
                    first | exact hK | simpa using hK
                  · obtain rfl := Option.some.inj hi
                    have e124 : a.tmps.getD 124 undef = .int .u64 (p : Int) := hD 33 (by kernel_rfl) _ 124 rfl rfl
                    have hpp : ((p : Int) == 0) = true := hp0
                    refine .inl ⟨wanted_yes 29 120 rfl rfl rfl (hD 29 (by kernel_rfl) _ 120 rfl rfl), mid_step (.bool true) wx (fun K hK => ?_) ⟨_, rfl, rfl, Below.refl _ _⟩⟩
                    go_simp
                    first | exact hK | simpa using hK
                  · obtain rfl := Option.some.inj hi
                    have e125 : a.tmps.getD 125 undef = .bool true := hD 34 (by kernel_rfl) _ 125 rfl rfl
                    refine .inl ⟨wanted_yes 29 120 rfl rfl rfl (hD 29 (by kernel_rfl) _ 120 rfl rfl), mid_step (.bool true) wx (fun K hK => ?_) ⟨_, rfl, rfl, Below.refl _ _⟩⟩
                    go_simp
                    first | exact hK | simpa using hK
                  · obtain rfl := Option.some.inj hi
                    have e6 : a.tmps.getD 6 undef = .pointer (some ⟨w.heap.size + 2, 0, none⟩) := (hM.other 6 (by decide +kernel)).trans rfl
                    refine .inl ⟨wanted_yes 35 126 rfl rfl rfl (hD 35 (by kernel_rfl) _ 126 rfl rfl), mid_step (.pointer (some ⟨w.heap.size + 2, 1, none⟩)) wx (fun K hK => ?_) ⟨_, rfl, rfl, Below.refl _ _⟩⟩
                    go_simp
                    first | exact hK | simpa using hK
                  · obtain rfl := Option.some.inj hi
                    have e127 : a.tmps.getD 127 undef = .pointer (some ⟨w.heap.size + 2, 1, none⟩) := hD 36 (by kernel_rfl) _ 127 rfl rfl
                    obtain ⟨K1, K2, K3, K4, K5, K6, K7, K8, K9, K10⟩ := HXZ.out wx hM.below
                    obtain ⟨c0, c1⟩ := K5
                    refine .inl ⟨wanted_yes 35 126 rfl rfl rfl (hD 35 (by kernel_rfl) _ 126 rfl rfl), mid_step (.int .u64 (q : Int)) wx (fun K hK => ?_) ⟨_, rfl, rfl, Below.refl _ _⟩⟩
                    go_simp
                    first | exact hK | simpa using hK
                  · obtain rfl := Option.some.inj hi
                    have e128 : a.tmps.getD 128 undef = .int .u64 (q : Int) := hD 37 (by kernel_rfl) _ 128 rfl rfl
                    have hqq : ((q : Int) == 0) = zz := hq0
                    refine .inl ⟨wanted_yes 35 126 rfl rfl rfl (hD 35 (by kernel_rfl) _ 126 rfl rfl), mid_step (.bool zz) wx (fun K hK => ?_) ⟨_, rfl, rfl, Below.refl _ _⟩⟩
                    go_simp
                    first | exact hK | simpa using hK
                  · obtain rfl := Option.some.inj hi
                    have e126 : a.tmps.getD 126 undef = .bool true := hD 35 (by kernel_rfl) _ 126 rfl rfl
                    have e129 : a.tmps.getD 129 undef = .bool zz := hD 38 (by kernel_rfl) _ 129 rfl rfl
                    refine .inl ⟨wanted_yes 29 120 rfl rfl rfl (hD 29 (by kernel_rfl) _ 120 rfl rfl), mid_step (.bool zz) wx (fun K hK => ?_) ⟨_, rfl, rfl, Below.refl _ _⟩⟩
                    go_simp
                    first | exact hK | simpa using hK
                  · obtain rfl := Option.some.inj hi
                    have e122 : a.tmps.getD 122 undef = .bool zz := hD 31 (by kernel_rfl) _ 122 rfl rfl
                    have e130 : a.tmps.getD 130 undef = .bool zz := hD 39 (by kernel_rfl) _ 130 rfl rfl
                    have hzz : (zz == zz) = true := by simp
                    refine .inl ⟨wanted_yes 29 120 rfl rfl rfl (hD 29 (by kernel_rfl) _ 120 rfl rfl), mid_step (.bool true) wx (fun K hK => ?_) ⟨_, rfl, rfl, Below.refl _ _⟩⟩
                    go_simp
                    first | exact hK | simpa using hK
                  · obtain rfl := Option.some.inj hi
                    have e120 : a.tmps.getD 120 undef = .bool true := hD 29 (by kernel_rfl) _ 120 rfl rfl
                    have e131 : a.tmps.getD 131 undef = .bool true := hD 40 (by kernel_rfl) _ 131 rfl rfl
                    refine .inl ⟨rfl, mid_step (.bool true) wx (fun K hK => ?_) ⟨_, rfl, rfl, Below.refl _ _⟩⟩
                    go_simp
                    first | exact hK | simpa using hK
                  · obtain rfl := Option.some.inj hi
                    have e132 : a.tmps.getD 132 undef = .bool true := hD 41 (by kernel_rfl) _ 132 rfl rfl
                    refine .inl ⟨rfl, mid_step (.bool true) wx (fun K hK => ?_) ⟨_, rfl, rfl, Below.refl _ _⟩⟩
                    go_simp
                    first | exact hK | simpa using hK
                  · obtain rfl := Option.some.inj hi
                    obtain ⟨K1, K2, K3, K4, K5, K6, K7, K8, K9, K10⟩ := HXZ.out wx hM.below
                    refine .inl ⟨wanted_yes 42 133 rfl rfl rfl (hD 42 (by kernel_rfl) _ 133 rfl rfl), mid_call (fun v w' => v = .bool true ∧ Below wx.heap.size wx w') (fun K hK => ?_) (fun v w' h => ⟨v, rfl, h.1, h.2⟩)⟩
                    go_simp
                    refine (WK.out wx K9).mono ?_
                    rintro e w' ⟨rfl, hb'⟩
                    exact hK _ _ ⟨rfl, hb'⟩
                  · obtain rfl := Option.some.inj hi
                    have e133 : a.tmps.getD 133 undef = .bool true := hD 42 (by kernel_rfl) _ 133 rfl rfl
                    have e134 : a.tmps.getD 134 undef = .bool true := hD 43 (by kernel_rfl) _ 134 rfl rfl
                    refine .inl ⟨rfl, mid_step (.bool true) wx (fun K hK => ?_) ⟨_, rfl, rfl, Below.refl _ _⟩⟩
                    go_simp
                    first | exact hK | simpa using hK
                  · obtain rfl := Option.some.inj hi
                    have e135 : a.tmps.getD 135 undef = .bool true := hD 44 (by kernel_rfl) _ 135 rfl rfl
                    refine .inl ⟨rfl, mid_step (.bool true) wx (fun K hK => ?_) ⟨_, rfl, rfl, Below.refl _ _⟩⟩
                    go_simp
                    first | exact hK | simpa using hK
                · intro a wx hM hD
                  have q0 := hD 0 (by decide) _ 91 rfl rfl
                  have q1 := hD 1 (by decide) _ 92 rfl rfl
                  have q2 := hD 2 (by decide) _ 93 rfl rfl
                  have q3 := hD 3 (by decide) _ 94 rfl rfl
                  have q4 := hD 4 (by decide) _ 95 rfl rfl
                  have q5 := hD 5 (by decide) _ 96 rfl rfl
                  have q6 := hD 6 (by decide) _ 97 rfl rfl
                  have q7 := hD 7 (by decide) _ 98 rfl rfl
                  have q8 := hD 8 (by decide) _ 99 rfl rfl
                  obtain ⟨uv, e100, ks⟩ := hD 9 (by decide) _ 100 rfl rfl
                  have q9 : a.tmps.getD 100 undef = uv := by assumption
                  have q10 := hD 10 (by decide) _ 101 rfl rfl
                  have q11 := hD 11 (by decide) _ 102 rfl rfl
                  have q12 := hD 12 (by decide) _ 103 rfl rfl
                  have q13 := hD 13 (by decide) _ 104 rfl rfl
                  have q14 := hD 14 (by decide) _ 105 rfl rfl
                  have q15 := hD 15 (by decide) _ 106 rfl rfl
                  have q16 := hD 16 (by decide) _ 107 rfl rfl
                  have q17 := hD 17 (by decide) _ 108 rfl rfl
                  have q18 := hD 18 (by decide) _ 109 rfl rfl
                  have q19 := hD 19 (by decide) _ 110 rfl rfl
                  have q20 := hD 20 (by decide) _ 111 rfl rfl
                  have q21 := hD 21 (by decide) _ 112 rfl rfl
                  have q22 := hD 22 (by decide) _ 113 rfl rfl
                  have q23 := hD 23 (by decide) _ 114 rfl rfl
                  have q24 := hD 24 (by decide) _ 115 rfl rfl
                  have q25 := hD 25 (by decide) _ 116 rfl rfl
                  have q26 := hD 26 (by decide) _ 117 rfl rfl
                  have q27 := hD 27 (by decide) _ 118 rfl rfl
                  have q28 := hD 28 (by decide) _ 119 rfl rfl
                  have q29 := hD 29 (by decide) _ 120 rfl rfl
                  have q30 := hD 30 (by decide) _ 121 rfl rfl
                  have q31 := hD 31 (by decide) _ 122 rfl rfl
                  have q32 := hD 32 (by decide) _ 123 rfl rfl
                  have q33 := hD 33 (by decide) _ 124 rfl rfl
                  have q34 := hD 34 (by decide) _ 125 rfl rfl
                  have q35 := hD 35 (by decide) _ 126 rfl rfl
                  have q36 := hD 36 (by decide) _ 127 rfl rfl
                  have q37 := hD 37 (by decide) _ 128 rfl rfl
                  have q38 := hD 38 (by decide) _ 129 rfl rfl
                  have q39 := hD 39 (by decide) _ 130 rfl rfl
                  have q40 := hD 40 (by decide) _ 131 rfl rfl
                  have q41 := hD 41 (by decide) _ 132 rfl rfl
                  have q42 := hD 42 (by decide) _ 133 rfl rfl
                  have q43 := hD 43 (by decide) _ 134 rfl rfl
                  have q44 := hD 44 (by decide) _ 135 rfl rfl
                  have q45 := hD 45 (by decide) _ 8 rfl rfl
                  have hact := act_puts (a := a) [(91, .agg #[xa0, xa1, xa2, xa3, xa4, xa5, xa6, xa7, xa8, xa9, xa10]), (92, .agg #[xo0, xo1, xo2, xo3, xo4, xo5, xo6, xo7, xo8, xo9, xo10]), (93, .bool sb), (94, .agg #[xu0, xu1, xu2, xu3, xu4, xu5, xu6, xu7, xu8, xu9, xu10]), (95, .agg #[xs0, xs1, xs2, xs3, xs4, xs5, xs6, xs7, xs8, xs9, xs10]), (96, .bool sb), (97, .bool true), (98, .bool true), (99, .agg #[xa0, xa1, xa2, xa3, xa4, xa5, xa6, xa7, xa8, xa9, xa10]), (100, uv), (101, .agg #[xu0, xu1, xu2, xu3, xu4, xu5, xu6, xu7, xu8, xu9, xu10]), (102, .bool true), (103, .bool true), (104, .bool true), (105, .agg #[.int .u64 (p : Int), .int .u64 (q : Int)]), (106, .agg #[.int .u64 (x : Int), .int .u64 (y : Int)]), (107, .int .i64 (cmpV p q x y)), (108, .agg #[.int .u64 (p : Int), .int .u64 (q : Int)]), (109, .agg #[.int .u64 (x : Int), .int .u64 (y : Int)]), (110, .int .i64 (cmpV p q x y)), (111, .bool true), (112, .bool true), (113, .bool true), (114, .agg #[.int .u64 (p : Int), .int .u64 (q : Int)]), (115, .string ⟨(verL p q).toArray⟩), (116, .agg #[.int .u64 (p : Int), .int .u64 (q : Int)]), (117, .string ⟨(verL p q).toArray⟩), (118, .bool true), (119, .bool true), (120, .bool true), (121, .agg #[.int .u64 (p : Int), .int .u64 (q : Int)]), (122, .bool zz), (123, .pointer (some ⟨w.heap.size + 2, 0, none⟩)), (124, .int .u64 (p : Int)), (125, .bool true), (126, .bool true), (127, .pointer (some ⟨w.heap.size + 2, 1, none⟩)), (128, .int .u64 (q : Int)), (129, .bool zz), (130, .bool zz), (131, .bool true), (132, .bool true), (133, .bool true), (134, .bool true), (135, .bool true), (8, .bool true)] _ hM.tmps hM.defers (by
                    intro s v hm
                    simp only [List.mem_cons, Prod.mk.injEq, List.not_mem_nil, or_false] at hm
                    rcases hm with ⟨rfl, rfl⟩ | ⟨rfl, rfl⟩ | ⟨rfl, rfl⟩ | ⟨rfl, rfl⟩ | ⟨rfl, rfl⟩ | ⟨rfl, rfl⟩ | ⟨rfl, rfl⟩ | ⟨rfl, rfl⟩ | ⟨rfl, rfl⟩ | ⟨rfl, rfl⟩ | ⟨rfl, rfl⟩ | ⟨rfl, rfl⟩ | ⟨rfl, rfl⟩ | ⟨rfl, rfl⟩ | ⟨rfl, rfl⟩ | ⟨rfl, rfl⟩ | ⟨rfl, rfl⟩ | ⟨rfl, rfl⟩ | ⟨rfl, rfl⟩ | ⟨rfl, rfl⟩ | ⟨rfl, rfl⟩ | ⟨rfl, rfl⟩ | ⟨rfl, rfl⟩ | ⟨rfl, rfl⟩ | ⟨rfl, rfl⟩ | ⟨rfl, rfl⟩ | ⟨rfl, rfl⟩ | ⟨rfl, rfl⟩ | ⟨rfl, rfl⟩ | ⟨rfl, rfl⟩ | ⟨rfl, rfl⟩ | ⟨rfl, rfl⟩ | ⟨rfl, rfl⟩ | ⟨rfl, rfl⟩ | ⟨rfl, rfl⟩ | ⟨rfl, rfl⟩ | ⟨rfl, rfl⟩ | ⟨rfl, rfl⟩ | ⟨rfl, rfl⟩ | ⟨rfl, rfl⟩ | ⟨rfl, rfl⟩ | ⟨rfl, rfl⟩ | ⟨rfl, rfl⟩ | ⟨rfl, rfl⟩ | ⟨rfl, rfl⟩ | ⟨rfl, rfl⟩
                    · exact ⟨(by show 91 < 136; decide), q0⟩
                    · exact ⟨(by show 92 < 136; decide), q1⟩
                    · exact ⟨(by show 93 < 136; decide), q2⟩
                    · exact ⟨(by show 94 < 136; decide), q3⟩
                    · exact ⟨(by show 95 < 136; decide), q4⟩
                    · exact ⟨(by show 96 < 136; decide), q5⟩
                    · exact ⟨(by show 97 < 136; decide), q6⟩
                    · exact ⟨(by show 98 < 136; decide), q7⟩
                    · exact ⟨(by show 99 < 136; decide), q8⟩
                    · exact ⟨(by show 100 < 136; decide), q9⟩
                    · exact ⟨(by show 101 < 136; decide), q10⟩
                    · exact ⟨(by show 102 < 136; decide), q11⟩
                    · exact ⟨(by show 103 < 136; decide), q12⟩
                    · exact ⟨(by show 104 < 136; decide), q13⟩
                    · exact ⟨(by show 105 < 136; decide), q14⟩
                    · exact ⟨(by show 106 < 136; decide), q15⟩
                    · exact ⟨(by show 107 < 136; decide), q16⟩
                    · exact ⟨(by show 108 < 136; decide), q17⟩
                    · exact ⟨(by show 109 < 136; decide), q18⟩
                    · exact ⟨(by show 110 < 136; decide), q19⟩
                    · exact ⟨(by show 111 < 136; decide), q20⟩
                    · exact ⟨(by show 112 < 136; decide), q21⟩
                    · exact ⟨(by show 113 < 136; decide), q22⟩
                    · exact ⟨(by show 114 < 136; decide), q23⟩
                    · exact ⟨(by show 115 < 136; decide), q24⟩
                    · exact ⟨(by show 116 < 136; decide), q25⟩
                    · exact ⟨(by show 117 < 136; decide), q26⟩
                    · exact ⟨(by show 118 < 136; decide), q27⟩
                    · exact ⟨(by show 119 < 136; decide), q28⟩
                    · exact ⟨(by show 120 < 136; decide), q29⟩
                    · exact ⟨(by show 121 < 136; decide), q30⟩
                    · exact ⟨(by show 122 < 136; decide), q31⟩
                    · exact ⟨(by show 123 < 136; decide), q32⟩
                    · exact ⟨(by show 124 < 136; decide), q33⟩
                    · exact ⟨(by show 125 < 136; decide), q34⟩
                    · exact ⟨(by show 126 < 136; decide), q35⟩
                    · exact ⟨(by show 127 < 136; decide), q36⟩
                    · exact ⟨(by show 128 < 136; decide), q37⟩
                    · exact ⟨(by show 129 < 136; decide), q38⟩
                    · exact ⟨(by show 130 < 136; decide), q39⟩
                    · exact ⟨(by show 131 < 136; decide), q40⟩
                    · exact ⟨(by show 132 < 136; decide), q41⟩
                    · exact ⟨(by show 133 < 136; decide), q42⟩
                    · exact ⟨(by show 134 < 136; decide), q43⟩
                    · exact ⟨(by show 135 < 136; decide), q44⟩
                    · exact ⟨(by show 8 < 136; decide), q45⟩) (fun s hs => hM.other s (by exact hs))
                  rw [hact]
                  have hBX := hM.below
                  clear hact hD hM q0 q1 q2 q3 q4 q5 q6 q7 q8 q9 q10 q11 q12 q13 q14 q15 q16 q17 q18 q19 q20 q21 q22 q23 q24 q25 q26 q27 q28 q29 q30 q31 q32 q33 q34 q35 q36 q37 q38 q39 q40 q41 q42 q43 q44 q45
                  simp only [List.foldl, Act.put, List.setIfInBounds_toArray, List.set_cons_succ, List.set_cons_zero]
                  have HBZ := (HXZ.out wx hBX).2.2.2.2.2.2.2.2.1
                  clear hBX HXZ
                  go_wp2
                  go_ret
                  exact ⟨rfl, HBZ⟩
              · have hp0 : ((p : Int) == 0) = false := by simp; omega
                have hzz0 : zz = false := by rw [← hzd]; simp [hpz]
                clear hpz
                refine wp_region_midG (N := 136) (fun i v ww => ([fun v ww => v = .agg #[xa0, xa1, xa2, xa3, xa4, xa5, xa6, xa7, xa8, xa9, xa10], fun v ww => v = .agg #[xo0, xo1, xo2, xo3, xo4, xo5, xo6, xo7, xo8, xo9, xo10], fun v ww => v = .bool sb, fun v ww => v = .agg #[xu0, xu1, xu2, xu3, xu4, xu5, xu6, xu7, xu8, xu9, xu10], fun v ww => v = .agg #[xs0, xs1, xs2, xs3, xs4, xs5, xs6, xs7, xs8, xs9, xs10], fun v ww => v = .bool sb, fun v ww => v = .bool true, fun v ww => v = .bool true, fun v ww => v = .agg #[xa0, xa1, xa2, xa3, xa4, xa5, xa6, xa7, xa8, xa9, xa10], fun v ww => ∃ uv, v = uv ∧ Hid (∀ W', Below ww.heap.size ww W' → Calls Tryz.prog 21 #[uv, .agg #[xu0, xu1, xu2, xu3, xu4, xu5, xu6, xu7, xu8, xu9, xu10]] W' fun e w'' => e = .returned (.bool true) ∧ Below W'.heap.size W' w''), fun v ww => v = .agg #[xu0, xu1, xu2, xu3, xu4, xu5, xu6, xu7, xu8, xu9, xu10], fun v ww => v = .bool true, fun v ww => v = .bool true, fun v ww => v = .bool true, fun v ww => v = .agg #[.int .u64 (p : Int), .int .u64 (q : Int)], fun v ww => v = .agg #[.int .u64 (x : Int), .int .u64 (y : Int)], fun v ww => v = .int .i64 (cmpV p q x y), fun v ww => v = .agg #[.int .u64 (p : Int), .int .u64 (q : Int)], fun v ww => v = .agg #[.int .u64 (x : Int), .int .u64 (y : Int)], fun v ww => v = .int .i64 (cmpV p q x y), fun v ww => v = .bool true, fun v ww => v = .bool true, fun v ww => v = .bool true, fun v ww => v = .agg #[.int .u64 (p : Int), .int .u64 (q : Int)], fun v ww => v = .string ⟨(verL p q).toArray⟩, fun v ww => v = .agg #[.int .u64 (p : Int), .int .u64 (q : Int)], fun v ww => v = .string ⟨(verL p q).toArray⟩, fun v ww => v = .bool true, fun v ww => v = .bool true, fun v ww => v = .bool true, fun v ww => v = .agg #[.int .u64 (p : Int), .int .u64 (q : Int)], fun v ww => v = .bool zz, fun v ww => v = .pointer (some ⟨w.heap.size + 2, 0, none⟩), fun v ww => v = .int .u64 (p : Int), fun v ww => v = .bool false, fun v ww => v = .bool false, fun v ww => v = undef, fun v ww => v = undef, fun v ww => v = undef, fun v ww => v = .bool false, fun v ww => v = .bool true, fun v ww => v = .bool true, fun v ww => v = .bool true, fun v ww => v = .bool true, fun v ww => v = .bool true, fun v ww => v = .bool true] : List (Value → World → Prop)).getD i (fun _ _ => True) v ww) (by kernel_rfl) (by kernel_rfl) rfl ?_ ?_ ?_
                · intro i v wa wb h0 hb hp
                  by_cases hi : i < 46
                  · have hcase : i = 0 ∨ i = 1 ∨ i = 2 ∨ i = 3 ∨ i = 4 ∨ i = 5 ∨ i = 6 ∨ i = 7 ∨ i = 8 ∨ i = 9 ∨ i = 10 ∨ i = 11 ∨ i = 12 ∨ i = 13 ∨ i = 14 ∨ i = 15 ∨ i = 16 ∨ i = 17 ∨ i = 18 ∨ i = 19 ∨ i = 20 ∨ i = 21 ∨ i = 22 ∨ i = 23 ∨ i = 24 ∨ i = 25 ∨ i = 26 ∨ i = 27 ∨ i = 28 ∨ i = 29 ∨ i = 30 ∨ i = 31 ∨ i = 32 ∨ i = 33 ∨ i = 34 ∨ i = 35 ∨ i = 36 ∨ i = 37 ∨ i = 38 ∨ i = 39 ∨ i = 40 ∨ i = 41 ∨ i = 42 ∨ i = 43 ∨ i = 44 ∨ i = 45 := by omega
                    rcases hcase with rfl | rfl | rfl | rfl | rfl | rfl | rfl | rfl | rfl | rfl | rfl | rfl | rfl | rfl | rfl | rfl | rfl | rfl | rfl | rfl | rfl | rfl | rfl | rfl | rfl | rfl | rfl | rfl | rfl | rfl | rfl | rfl | rfl | rfl | rfl | rfl | rfl | rfl | rfl | rfl | rfl | rfl | rfl | rfl | rfl | rfl
                    · exact hp
                    · exact hp
                    · exact hp
                    · exact hp
                    · exact hp
                    · exact hp
                    · exact hp
                    · exact hp
                    · exact hp
                    · obtain ⟨uv, e, ks⟩ := hp
                      exact ⟨uv, e, Lib_hid fun W' hW' => ks.out W' (hb.trans (hW'.mono hb.size))⟩
                    · exact hp
                    · exact hp
                    · exact hp
                    · exact hp
                    · exact hp
                    · exact hp
                    · exact hp
                    · exact hp
                    · exact hp
                    · exact hp
                    · exact hp
                    · exact hp
                    · exact hp
                    · exact hp
                    · exact hp
                    · exact hp
                    · exact hp
                    · exact hp
                    · exact hp
                    · exact hp
                    · exact hp
                    · exact hp
                    · exact hp
                    · exact hp
                    · exact hp
                    · exact hp
                    · exact hp
                    · exact hp
                    · exact hp
                    · exact hp
                    · exact hp
                    · exact hp
                    · exact hp
                    · exact hp
                    · exact hp
                    · exact hp
                  · have hnn : ([fun v ww => v = .agg #[xa0, xa1, xa2, xa3, xa4, xa5, xa6, xa7, xa8, xa9, xa10], fun v ww => v = .agg #[xo0, xo1, xo2, xo3, xo4, xo5, xo6, xo7, xo8, xo9, xo10], fun v ww => v = .bool sb, fun v ww => v = .agg #[xu0, xu1, xu2, xu3, xu4, xu5, xu6, xu7, xu8, xu9, xu10], fun v ww => v = .agg #[xs0, xs1, xs2, xs3, xs4, xs5, xs6, xs7, xs8, xs9, xs10], fun v ww => v = .bool sb, fun v ww => v = .bool true, fun v ww => v = .bool true, fun v ww => v = .agg #[xa0, xa1, xa2, xa3, xa4, xa5, xa6, xa7, xa8, xa9, xa10], fun v ww => ∃ uv, v = uv ∧ Hid (∀ W', Below ww.heap.size ww W' → Calls Tryz.prog 21 #[uv, .agg #[xu0, xu1, xu2, xu3, xu4, xu5, xu6, xu7, xu8, xu9, xu10]] W' fun e w'' => e = .returned (.bool true) ∧ Below W'.heap.size W' w''), fun v ww => v = .agg #[xu0, xu1, xu2, xu3, xu4, xu5, xu6, xu7, xu8, xu9, xu10], fun v ww => v = .bool true, fun v ww => v = .bool true, fun v ww => v = .bool true, fun v ww => v = .agg #[.int .u64 (p : Int), .int .u64 (q : Int)], fun v ww => v = .agg #[.int .u64 (x : Int), .int .u64 (y : Int)], fun v ww => v = .int .i64 (cmpV p q x y), fun v ww => v = .agg #[.int .u64 (p : Int), .int .u64 (q : Int)], fun v ww => v = .agg #[.int .u64 (x : Int), .int .u64 (y : Int)], fun v ww => v = .int .i64 (cmpV p q x y), fun v ww => v = .bool true, fun v ww => v = .bool true, fun v ww => v = .bool true, fun v ww => v = .agg #[.int .u64 (p : Int), .int .u64 (q : Int)], fun v ww => v = .string ⟨(verL p q).toArray⟩, fun v ww => v = .agg #[.int .u64 (p : Int), .int .u64 (q : Int)], fun v ww => v = .string ⟨(verL p q).toArray⟩, fun v ww => v = .bool true, fun v ww => v = .bool true, fun v ww => v = .bool true, fun v ww => v = .agg #[.int .u64 (p : Int), .int .u64 (q : Int)], fun v ww => v = .bool zz, fun v ww => v = .pointer (some ⟨w.heap.size + 2, 0, none⟩), fun v ww => v = .int .u64 (p : Int), fun v ww => v = .bool false, fun v ww => v = .bool false, fun v ww => v = undef, fun v ww => v = undef, fun v ww => v = undef, fun v ww => v = .bool false, fun v ww => v = .bool true, fun v ww => v = .bool true, fun v ww => v = .bool true, fun v ww => v = .bool true, fun v ww => v = .bool true, fun v ww => v = .bool true] : List (Value → World → Prop))[i]? = none := List.getElem?_eq_none (by simpa using hi)
                    rw [List.getD_eq_getElem?_getD, hnn]
                    trivial
                · intro i o a wx hi hM hD
                  have hi8 : i < 46 := (Array.getElem?_eq_some_iff.1 hi).1
                  have hcase : i = 0 ∨ i = 1 ∨ i = 2 ∨ i = 3 ∨ i = 4 ∨ i = 5 ∨ i = 6 ∨ i = 7 ∨ i = 8 ∨ i = 9 ∨ i = 10 ∨ i = 11 ∨ i = 12 ∨ i = 13 ∨ i = 14 ∨ i = 15 ∨ i = 16 ∨ i = 17 ∨ i = 18 ∨ i = 19 ∨ i = 20 ∨ i = 21 ∨ i = 22 ∨ i = 23 ∨ i = 24 ∨ i = 25 ∨ i = 26 ∨ i = 27 ∨ i = 28 ∨ i = 29 ∨ i = 30 ∨ i = 31 ∨ i = 32 ∨ i = 33 ∨ i = 34 ∨ i = 35 ∨ i = 36 ∨ i = 37 ∨ i = 38 ∨ i = 39 ∨ i = 40 ∨ i = 41 ∨ i = 42 ∨ i = 43 ∨ i = 44 ∨ i = 45 := by omega
                  clear hi8
                  rcases hcase with rfl | rfl | rfl | rfl | rfl | rfl | rfl | rfl | rfl | rfl | rfl | rfl | rfl | rfl | rfl | rfl | rfl | rfl | rfl | rfl | rfl | rfl | rfl | rfl | rfl | rfl | rfl | rfl | rfl | rfl | rfl | rfl | rfl | rfl | rfl | rfl | rfl | rfl | rfl | rfl | rfl | rfl | rfl | rfl | rfl | rfl
                  · obtain rfl := Option.some.inj hi
                    have e4 : a.tmps.getD 4 undef = .pointer (some ⟨w.heap.size, 0, none⟩) := (hM.other 4 (by decide +kernel)).trans rfl
                    obtain ⟨K1, K2, K3, K4, K5, K6, K7, K8, K9, K10⟩ := HXZ.out wx hM.below
                    obtain ⟨c0, c1, c2, c3, c4, c5, c6, c7, c8, c9, c10⟩ := K1
                    refine .inl ⟨rfl, mid_step (.agg #[xa0, xa1, xa2, xa3, xa4, xa5, xa6, xa7, xa8, xa9, xa10]) wx (fun K hK => ?_) ⟨_, rfl, rfl, Below.refl _ _⟩⟩
                    go_simp
                    first | exact hK | simpa using hK
                  · obtain rfl := Option.some.inj hi
                    have e5 : a.tmps.getD 5 undef = .pointer (some ⟨w.heap.size + 1, 0, none⟩) := (hM.other 5 (by decide +kernel)).trans rfl
                    obtain ⟨K1, K2, K3, K4, K5, K6, K7, K8, K9, K10⟩ := HXZ.out wx hM.below
                    obtain ⟨c0, c1, c2, c3, c4, c5, c6, c7, c8, c9, c10⟩ := K2
                    refine .inl ⟨rfl, mid_step (.agg #[xo0, xo1, xo2, xo3, xo4, xo5, xo6, xo7, xo8, xo9, xo10]) wx (fun K hK => ?_) ⟨_, rfl, rfl, Below.refl _ _⟩⟩
                    go_simp
                    first | exact hK | simpa using hK
                  · obtain rfl := Option.some.inj hi
                    have e91 : a.tmps.getD 91 undef = .agg #[xa0, xa1, xa2, xa3, xa4, xa5, xa6, xa7, xa8, xa9, xa10] := hD 0 (by kernel_rfl) _ 91 rfl rfl
                    have e92 : a.tmps.getD 92 undef = .agg #[xo0, xo1, xo2, xo3, xo4, xo5, xo6, xo7, xo8, xo9, xo10] := hD 1 (by kernel_rfl) _ 92 rfl rfl
                    obtain ⟨K1, K2, K3, K4, K5, K6, K7, K8, K9, K10⟩ := HXZ.out wx hM.below
                    refine .inl ⟨rfl, mid_call (fun v w' => v = .bool sb ∧ Below wx.heap.size wx w') (fun K hK => ?_) (fun v w' h => ⟨v, rfl, h.1, h.2⟩)⟩
                    go_simp
                    refine (SMo.out wx K9).mono ?_
                    rintro e w' ⟨rfl, hb'⟩
                    exact hK _ _ ⟨rfl, hb'⟩
                  · obtain rfl := Option.some.inj hi
                    have e9 : a.tmps.getD 9 undef = .pointer (some ⟨g9, 0, none⟩) := (hM.other 9 (by decide +kernel)).trans rfl
                    obtain ⟨K1, K2, K3, K4, K5, K6, K7, K8, K9, K10⟩ := HXZ.out wx hM.below
                    obtain ⟨c0, c1, c2, c3, c4, c5, c6, c7, c8, c9, c10⟩ := K3
                    refine .inl ⟨rfl, mid_step (.agg #[xu0, xu1, xu2, xu3, xu4, xu5, xu6, xu7, xu8, xu9, xu10]) wx (fun K hK => ?_) ⟨_, rfl, rfl, Below.refl _ _⟩⟩
                    go_simp
                    first | exact hK | simpa using hK
                  · obtain rfl := Option.some.inj hi
                    have e10 : a.tmps.getD 10 undef = .pointer (some ⟨g10, 0, none⟩) := (hM.other 10 (by decide +kernel)).trans rfl
                    obtain ⟨K1, K2, K3, K4, K5, K6, K7, K8, K9, K10⟩ := HXZ.out wx hM.below
                    obtain ⟨c0, c1, c2, c3, c4, c5, c6, c7, c8, c9, c10⟩ := K4
                    refine .inl ⟨rfl, mid_step (.agg #[xs0, xs1, xs2, xs3, xs4, xs5, xs6, xs7, xs8, xs9, xs10]) wx (fun K hK => ?_) ⟨_, rfl, rfl, Below.refl _ _⟩⟩
                    go_simp
                    first | exact hK | simpa using hK
                  · obtain rfl := Option.some.inj hi
                    have e94 : a.tmps.getD 94 undef = .agg #[xu0, xu1, xu2, xu3, xu4, xu5, xu6, xu7, xu8, xu9, xu10] := hD 3 (by kernel_rfl) _ 94 rfl rfl
                    have e95 : a.tmps.getD 95 undef = .agg #[xs0, xs1, xs2, xs3, xs4, xs5, xs6, xs7, xs8, xs9, xs10] := hD 4 (by kernel_rfl) _ 95 rfl rfl
                    obtain ⟨K1, K2, K3, K4, K5, K6, K7, K8, K9, K10⟩ := HXZ.out wx hM.below
                    refine .inl ⟨rfl, mid_call (fun v w' => v = .bool sb ∧ Below wx.heap.size wx w') (fun K hK => ?_) (fun v w' h => ⟨v, rfl, h.1, h.2⟩)⟩
                    go_simp
                    refine (DXY.out wx K10).mono ?_
                    rintro e w' ⟨rfl, hb'⟩
                    exact hK _ _ ⟨rfl, hb'⟩
                  · obtain rfl := Option.some.inj hi
                    have e93 : a.tmps.getD 93 undef = .bool sb := hD 2 (by kernel_rfl) _ 93 rfl rfl
                    have e96 : a.tmps.getD 96 undef = .bool sb := hD 5 (by kernel_rfl) _ 96 rfl rfl
                    have hsbb : (sb == sb) = true := by simp
                    refine .inl ⟨rfl, mid_step (.bool true) wx (fun K hK => ?_) ⟨_, rfl, rfl, Below.refl _ _⟩⟩
                    go_simp
                    first | exact hK | simpa using hK
                  · obtain rfl := Option.some.inj hi
                    have e97 : a.tmps.getD 97 undef = .bool true := hD 6 (by kernel_rfl) _ 97 rfl rfl
                    refine .inl ⟨rfl, mid_step (.bool true) wx (fun K hK => ?_) ⟨_, rfl, rfl, Below.refl _ _⟩⟩
                    go_simp
                    first | exact hK | simpa using hK
                  · obtain rfl := Option.some.inj hi
                    have e4 : a.tmps.getD 4 undef = .pointer (some ⟨w.heap.size, 0, none⟩) := (hM.other 4 (by decide +kernel)).trans rfl
                    obtain ⟨K1, K2, K3, K4, K5, K6, K7, K8, K9, K10⟩ := HXZ.out wx hM.below
                    obtain ⟨c0, c1, c2, c3, c4, c5, c6, c7, c8, c9, c10⟩ := K1
                    refine .inl ⟨wanted_yes 7 98 rfl rfl rfl (hD 7 (by kernel_rfl) _ 98 rfl rfl), mid_step (.agg #[xa0, xa1, xa2, xa3, xa4, xa5, xa6, xa7, xa8, xa9, xa10]) wx (fun K hK => ?_) ⟨_, rfl, rfl, Below.refl _ _⟩⟩
                    go_simp
                    first | exact hK | simpa using hK
                  · obtain rfl := Option.some.inj hi
                    have e99 : a.tmps.getD 99 undef = .agg #[xa0, xa1, xa2, xa3, xa4, xa5, xa6, xa7, xa8, xa9, xa10] := hD 8 (by kernel_rfl) _ 99 rfl rfl
                    obtain ⟨K1, K2, K3, K4, K5, K6, K7, K8, K9, K10⟩ := HXZ.out wx hM.below
                    refine .inl ⟨wanted_yes 7 98 rfl rfl rfl (hD 7 (by kernel_rfl) _ 98 rfl rfl), mid_call (fun v w' => (∃ uv, v = uv ∧ Hid (∀ W', Below w'.heap.size w' W' → Calls Tryz.prog 21 #[uv, .agg #[xu0, xu1, xu2, xu3, xu4, xu5, xu6, xu7, xu8, xu9, xu10]] W' fun e w'' => e = .returned (.bool true) ∧ Below W'.heap.size W' w'')) ∧ Below wx.heap.size wx w') (fun K hK => ?_) (fun v w' h => ⟨v, rfl, h.1, h.2⟩)⟩
                    go_simp
                    refine (DSA.out wx K10).mono ?_
                    rintro e w' ⟨uv, rfl, ks, hb'⟩
                    exact hK _ _ ⟨⟨uv, rfl, ks⟩, hb'⟩
                  · obtain rfl := Option.some.inj hi
                    have e9 : a.tmps.getD 9 undef = .pointer (some ⟨g9, 0, none⟩) := (hM.other 9 (by decide +kernel)).trans rfl
                    obtain ⟨K1, K2, K3, K4, K5, K6, K7, K8, K9, K10⟩ := HXZ.out wx hM.below
                    obtain ⟨c0, c1, c2, c3, c4, c5, c6, c7, c8, c9, c10⟩ := K3
                    refine .inl ⟨wanted_yes 7 98 rfl rfl rfl (hD 7 (by kernel_rfl) _ 98 rfl rfl), mid_step (.agg #[xu0, xu1, xu2, xu3, xu4, xu5, xu6, xu7, xu8, xu9, xu10]) wx (fun K hK => ?_) ⟨_, rfl, rfl, Below.refl _ _⟩⟩
                    go_simp
                    first | exact hK | simpa using hK
                  · obtain rfl := Option.some.inj hi
                    obtain ⟨uv, e100, ks⟩ := hD 9 (by kernel_rfl) _ 100 rfl rfl
                    have e101 : a.tmps.getD 101 undef = .agg #[xu0, xu1, xu2, xu3, xu4, xu5, xu6, xu7, xu8, xu9, xu10] := hD 10 (by kernel_rfl) _ 101 rfl rfl
                    refine .inl ⟨wanted_yes 7 98 rfl rfl rfl (hD 7 (by kernel_rfl) _ 98 rfl rfl), mid_call (fun v w' => v = .bool true ∧ Below wx.heap.size wx w') (fun K hK => ?_) (fun v w' h => ⟨v, rfl, h.1, h.2⟩)⟩
                    go_simp
                    refine (ks.out wx (Below.refl _ _)).mono ?_
                    rintro e w' ⟨rfl, hb'⟩
                    exact hK _ _ ⟨rfl, hb'⟩
                  · obtain rfl := Option.some.inj hi
                    have e98 : a.tmps.getD 98 undef = .bool true := hD 7 (by kernel_rfl) _ 98 rfl rfl
                    have e102 : a.tmps.getD 102 undef = .bool true := hD 11 (by kernel_rfl) _ 102 rfl rfl
                    refine .inl ⟨rfl, mid_step (.bool true) wx (fun K hK => ?_) ⟨_, rfl, rfl, Below.refl _ _⟩⟩
                    go_simp
                    first | exact hK | simpa using hK
                  · obtain rfl := Option.some.inj hi
                    have e103 : a.tmps.getD 103 undef = .bool true := hD 12 (by kernel_rfl) _ 103 rfl rfl
                    refine .inl ⟨rfl, mid_step (.bool true) wx (fun K hK => ?_) ⟨_, rfl, rfl, Below.refl _ _⟩⟩
                    go_simp
                    first | exact hK | simpa using hK
                  · obtain rfl := Option.some.inj hi
                    have e6 : a.tmps.getD 6 undef = .pointer (some ⟨w.heap.size + 2, 0, none⟩) := (hM.other 6 (by decide +kernel)).trans rfl
                    obtain ⟨K1, K2, K3, K4, K5, K6, K7, K8, K9, K10⟩ := HXZ.out wx hM.below
                    obtain ⟨c0, c1⟩ := K5
                    refine .inl ⟨wanted_yes 13 104 rfl rfl rfl (hD 13 (by kernel_rfl) _ 104 rfl rfl), mid_step (.agg #[.int .u64 (p : Int), .int .u64 (q : Int)]) wx (fun K hK => ?_) ⟨_, rfl, rfl, Below.refl _ _⟩⟩
                    go_simp
                    first | exact hK | simpa using hK
                  · obtain rfl := Option.some.inj hi
                    have e7 : a.tmps.getD 7 undef = .pointer (some ⟨w.heap.size + 3, 0, none⟩) := (hM.other 7 (by decide +kernel)).trans rfl
                    obtain ⟨K1, K2, K3, K4, K5, K6, K7, K8, K9, K10⟩ := HXZ.out wx hM.below
                    obtain ⟨c0, c1⟩ := K6
                    refine .inl ⟨wanted_yes 13 104 rfl rfl rfl (hD 13 (by kernel_rfl) _ 104 rfl rfl), mid_step (.agg #[.int .u64 (x : Int), .int .u64 (y : Int)]) wx (fun K hK => ?_) ⟨_, rfl, rfl, Below.refl _ _⟩⟩
                    go_simp
                    first | exact hK | simpa using hK
                  · obtain rfl := Option.some.inj hi
                    have e105 : a.tmps.getD 105 undef = .agg #[.int .u64 (p : Int), .int .u64 (q : Int)] := hD 14 (by kernel_rfl) _ 105 rfl rfl
                    have e106 : a.tmps.getD 106 undef = .agg #[.int .u64 (x : Int), .int .u64 (y : Int)] := hD 15 (by kernel_rfl) _ 106 rfl rfl
                    obtain ⟨K1, K2, K3, K4, K5, K6, K7, K8, K9, K10⟩ := HXZ.out wx hM.below
                    refine .inl ⟨wanted_yes 13 104 rfl rfl rfl (hD 13 (by kernel_rfl) _ 104 rfl rfl), mid_call (fun v w' => v = .int .i64 (cmpV p q x y) ∧ Below wx.heap.size wx w') (fun K hK => ?_) (fun v w' h => ⟨v, rfl, h.1, h.2⟩)⟩
                    go_simp
                    refine (vcmp5_any p q x y wx).mono ?_
                    rintro e w' ⟨rfl, hb'⟩
                    exact hK _ _ ⟨rfl, hb'⟩
                  · obtain rfl := Option.some.inj hi
                    have e17 : a.tmps.getD 17 undef = .pointer (some ⟨ga, 0, none⟩) := (hM.other 17 (by decide +kernel)).trans rfl
                    obtain ⟨K1, K2, K3, K4, K5, K6, K7, K8, K9, K10⟩ := HXZ.out wx hM.below
                    obtain ⟨c0, c1⟩ := K7
                    refine .inl ⟨wanted_yes 13 104 rfl rfl rfl (hD 13 (by kernel_rfl) _ 104 rfl rfl), mid_step (.agg #[.int .u64 (p : Int), .int .u64 (q : Int)]) wx (fun K hK => ?_) ⟨_, rfl, rfl, Below.refl _ _⟩⟩
                    go_simp
                    first | exact hK | simpa using hK
                  · obtain rfl := Option.some.inj hi
                    have e18 : a.tmps.getD 18 undef = .pointer (some ⟨gb, 0, none⟩) := (hM.other 18 (by decide +kernel)).trans rfl
                    obtain ⟨K1, K2, K3, K4, K5, K6, K7, K8, K9, K10⟩ := HXZ.out wx hM.below
                    obtain ⟨c0, c1⟩ := K8
                    refine .inl ⟨wanted_yes 13 104 rfl rfl rfl (hD 13 (by kernel_rfl) _ 104 rfl rfl), mid_step (.agg #[.int .u64 (x : Int), .int .u64 (y : Int)]) wx (fun K hK => ?_) ⟨_, rfl, rfl, Below.refl _ _⟩⟩
                    go_simp
                    first | exact hK | simpa using hK
                  · obtain rfl := Option.some.inj hi
                    have e108 : a.tmps.getD 108 undef = .agg #[.int .u64 (p : Int), .int .u64 (q : Int)] := hD 17 (by kernel_rfl) _ 108 rfl rfl
                    have e109 : a.tmps.getD 109 undef = .agg #[.int .u64 (x : Int), .int .u64 (y : Int)] := hD 18 (by kernel_rfl) _ 109 rfl rfl
                    obtain ⟨K1, K2, K3, K4, K5, K6, K7, K8, K9, K10⟩ := HXZ.out wx hM.below
                    refine .inl ⟨wanted_yes 13 104 rfl rfl rfl (hD 13 (by kernel_rfl) _ 104 rfl rfl), mid_call (fun v w' => v = .int .i64 (cmpV p q x y) ∧ Below wx.heap.size wx w') (fun K hK => ?_) (fun v w' h => ⟨v, rfl, h.1, h.2⟩)⟩
                    go_simp
                    refine (rcmp5_any p q x y wx).mono ?_
                    rintro e w' ⟨rfl, hb'⟩
                    exact hK _ _ ⟨rfl, hb'⟩
                  · obtain rfl := Option.some.inj hi
                    have e107 : a.tmps.getD 107 undef = .int .i64 (cmpV p q x y) := hD 16 (by kernel_rfl) _ 107 rfl rfl
                    have e110 : a.tmps.getD 110 undef = .int .i64 (cmpV p q x y) := hD 19 (by kernel_rfl) _ 110 rfl rfl
                    have hcb : (cmpV p q x y == cmpV p q x y) = true := by simp
                    refine .inl ⟨wanted_yes 13 104 rfl rfl rfl (hD 13 (by kernel_rfl) _ 104 rfl rfl), mid_step (.bool true) wx (fun K hK => ?_) ⟨_, rfl, rfl, Below.refl _ _⟩⟩
                    go_simp
                    first | exact hK | simpa using hK
                  · obtain rfl := Option.some.inj hi
                    have e104 : a.tmps.getD 104 undef = .bool true := hD 13 (by kernel_rfl) _ 104 rfl rfl
                    have e111 : a.tmps.getD 111 undef = .bool true := hD 20 (by kernel_rfl) _ 111 rfl rfl
                    refine .inl ⟨rfl, mid_step (.bool true) wx (fun K hK => ?_) ⟨_, rfl, rfl, Below.refl _ _⟩⟩
                    go_simp
                    first | exact hK | simpa using hK
                  · obtain rfl := Option.some.inj hi
                    have e112 : a.tmps.getD 112 undef = .bool true := hD 21 (by kernel_rfl) _ 112 rfl rfl
                    refine .inl ⟨rfl, mid_step (.bool true) wx (fun K hK => ?_) ⟨_, rfl, rfl, Below.refl _ _⟩⟩
                    go_simp
                    first | exact hK | simpa using hK
                  · obtain rfl := Option.some.inj hi
                    have e6 : a.tmps.getD 6 undef = .pointer (some ⟨w.heap.size + 2, 0, none⟩) := (hM.other 6 (by decide +kernel)).trans rfl
                    obtain ⟨K1, K2, K3, K4, K5, K6, K7, K8, K9, K10⟩ := HXZ.out wx hM.below
                    obtain ⟨c0, c1⟩ := K5
                    refine .inl ⟨wanted_yes 22 113 rfl rfl rfl (hD 22 (by kernel_rfl) _ 113 rfl rfl), mid_step (.agg #[.int .u64 (p : Int), .int .u64 (q : Int)]) wx (fun K hK => ?_) ⟨_, rfl, rfl, Below.refl _ _⟩⟩
                    go_simp
                    first | exact hK | simpa using hK
                  · obtain rfl := Option.some.inj hi
                    have e114 : a.tmps.getD 114 undef = .agg #[.int .u64 (p : Int), .int .u64 (q : Int)] := hD 23 (by kernel_rfl) _ 114 rfl rfl
                    obtain ⟨K1, K2, K3, K4, K5, K6, K7, K8, K9, K10⟩ := HXZ.out wx hM.below
                    refine .inl ⟨wanted_yes 22 113 rfl rfl rfl (hD 22 (by kernel_rfl) _ 113 rfl rfl), mid_call (fun v w' => v = .string ⟨(verL p q).toArray⟩ ∧ Below wx.heap.size wx w') (fun K hK => ?_) (fun v w' h => ⟨v, rfl, h.1, h.2⟩)⟩
                    go_simp
                    refine (VT.out wx K9).mono ?_
                    rintro e w' ⟨rfl, hb'⟩
                    exact hK _ _ ⟨rfl, hb'⟩
                  · obtain rfl := Option.some.inj hi
                    have e17 : a.tmps.getD 17 undef = .pointer (some ⟨ga, 0, none⟩) := (hM.other 17 (by decide +kernel)).trans rfl
                    obtain ⟨K1, K2, K3, K4, K5, K6, K7, K8, K9, K10⟩ := HXZ.out wx hM.below
                    obtain ⟨c0, c1⟩ := K7
                    refine .inl ⟨wanted_yes 22 113 rfl rfl rfl (hD 22 (by kernel_rfl) _ 113 rfl rfl), mid_step (.agg #[.int .u64 (p : Int), .int .u64 (q : Int)]) wx (fun K hK => ?_) ⟨_, rfl, rfl, Below.refl _ _⟩⟩
                    go_simp
                    first | exact hK | simpa using hK
                  · obtain rfl := Option.some.inj hi
                    have e116 : a.tmps.getD 116 undef = .agg #[.int .u64 (p : Int), .int .u64 (q : Int)] := hD 25 (by kernel_rfl) _ 116 rfl rfl
                    obtain ⟨K1, K2, K3, K4, K5, K6, K7, K8, K9, K10⟩ := HXZ.out wx hM.below
                    refine .inl ⟨wanted_yes 22 113 rfl rfl rfl (hD 22 (by kernel_rfl) _ 113 rfl rfl), mid_call (fun v w' => v = .string ⟨(verL p q).toArray⟩ ∧ Below wx.heap.size wx w') (fun K hK => ?_) (fun v w' h => ⟨v, rfl, h.1, h.2⟩)⟩
                    go_simp
                    refine (rtold5_any p q wx hp hq).mono ?_
                    rintro e w' ⟨rfl, hb'⟩
                    exact hK _ _ ⟨rfl, hb'⟩
                  · obtain rfl := Option.some.inj hi
                    have e115 : a.tmps.getD 115 undef = .string ⟨(verL p q).toArray⟩ := hD 24 (by kernel_rfl) _ 115 rfl rfl
                    have e117 : a.tmps.getD 117 undef = .string ⟨(verL p q).toArray⟩ := hD 26 (by kernel_rfl) _ 117 rfl rfl
                    have hvb : ((verL p q) == (verL p q)) = true := by simp
                    refine .inl ⟨wanted_yes 22 113 rfl rfl rfl (hD 22 (by kernel_rfl) _ 113 rfl rfl), mid_step (.bool true) wx (fun K hK => ?_) ⟨_, rfl, rfl, Below.refl _ _⟩⟩
                    go_simp
                    first | exact hK | simpa using hK
                  · obtain rfl := Option.some.inj hi
                    have e113 : a.tmps.getD 113 undef = .bool true := hD 22 (by kernel_rfl) _ 113 rfl rfl
                    have e118 : a.tmps.getD 118 undef = .bool true := hD 27 (by kernel_rfl) _ 118 rfl rfl
                    refine .inl ⟨rfl, mid_step (.bool true) wx (fun K hK => ?_) ⟨_, rfl, rfl, Below.refl _ _⟩⟩
                    go_simp
                    first | exact hK | simpa using hK
                  · obtain rfl := Option.some.inj hi
                    have e119 : a.tmps.getD 119 undef = .bool true := hD 28 (by kernel_rfl) _ 119 rfl rfl
                    refine .inl ⟨rfl, mid_step (.bool true) wx (fun K hK => ?_) ⟨_, rfl, rfl, Below.refl _ _⟩⟩
                    go_simp
                    first | exact hK | simpa using hK
                  · obtain rfl := Option.some.inj hi
                    have e6 : a.tmps.getD 6 undef = .pointer (some ⟨w.heap.size + 2, 0, none⟩) := (hM.other 6 (by decide +kernel)).trans rfl
                    obtain ⟨K1, K2, K3, K4, K5, K6, K7, K8, K9, K10⟩ := HXZ.out wx hM.below
                    obtain ⟨c0, c1⟩ := K5
                    refine .inl ⟨wanted_yes 29 120 rfl rfl rfl (hD 29 (by kernel_rfl) _ 120 rfl rfl), mid_step (.agg #[.int .u64 (p : Int), .int .u64 (q : Int)]) wx (fun K hK => ?_) ⟨_, rfl, rfl, Below.refl _ _⟩⟩
                    go_simp
                    first | exact hK | simpa using hK
                  · obtain rfl := Option.some.inj hi
                    have e121 : a.tmps.getD 121 undef = .agg #[.int .u64 (p : Int), .int .u64 (q : Int)] := hD 30 (by kernel_rfl) _ 121 rfl rfl
                    obtain ⟨K1, K2, K3, K4, K5, K6, K7, K8, K9, K10⟩ := HXZ.out wx hM.below
                    refine .inl ⟨wanted_yes 29 120 rfl rfl rfl (hD 29 (by kernel_rfl) _ 120 rfl rfl), mid_call (fun v w' => v = .bool zz ∧ Below wx.heap.size wx w') (fun K hK => ?_) (fun v w' h => ⟨v, rfl, h.1, h.2⟩)⟩
                    go_simp
                    refine (UB.out wx).mono ?_
                    rintro e w' ⟨rfl, hb'⟩
                    exact hK _ _ ⟨rfl, hb'⟩
                  · obtain rfl := Option.some.inj hi
                    have e6 : a.tmps.getD 6 undef = .pointer (some ⟨w.heap.size + 2, 0, none⟩) := (hM.other 6 (by decide +kernel)).trans rfl
                    refine .inl ⟨wanted_yes 29 120 rfl rfl rfl (hD 29 (by kernel_rfl) _ 120 rfl rfl), mid_step (.pointer (some ⟨w.heap.size + 2, 0, none⟩)) wx (fun K hK => ?_) ⟨_, rfl, rfl, Below.refl _ _⟩⟩
                    go_simp
                    first | exact hK | simpa using hK
                  · obtain rfl := Option.some.inj hi
                    have e123 : a.tmps.getD 123 undef = .pointer (some ⟨w.heap.size + 2, 0, none⟩) := hD 32 (by kernel_rfl) _ 123 rfl rfl
                    obtain ⟨K1, K2, K3, K4, K5, K6, K7, K8, K9, K10⟩ := HXZ.out wx hM.below
                    obtain ⟨c0, c1⟩ := K5
                    refine .inl ⟨wanted_yes 29 120 rfl rfl rfl (hD 29 (by kernel_rfl) _ 120 rfl rfl), mid_step (.int .u64 (p : Int)) wx (fun K hK => ?_) ⟨_, rfl, rfl, Below.refl _ _⟩⟩
                    go_simp
                    first | exact hK | simpa using hK
                  · obtain rfl := Option.some.inj hi
                    have e124 : a.tmps.getD 124 undef = .int .u64 (p : Int) := hD 33 (by kernel_rfl) _ 124 rfl rfl
                    have hpp : ((p : Int) == 0) = false := hp0
                    refine .inl ⟨wanted_yes 29 120 rfl rfl rfl (hD 29 (by kernel_rfl) _ 120 rfl rfl), mid_step (.bool false) wx (fun K hK => ?_) ⟨_, rfl, rfl, Below.refl _ _⟩⟩
                    go_simp
                    first | exact hK | simpa using hK
                  · obtain rfl := Option.some.inj hi
                    have e125 : a.tmps.getD 125 undef = .bool false := hD 34 (by kernel_rfl) _ 125 rfl rfl
                    refine .inl ⟨wanted_yes 29 120 rfl rfl rfl (hD 29 (by kernel_rfl) _ 120 rfl rfl), mid_step (.bool false) wx (fun K hK => ?_) ⟨_, rfl, rfl, Below.refl _ _⟩⟩
                    go_simp
                    first | exact hK | simpa using hK
                  · obtain rfl := Option.some.inj hi
                    exact .inr ⟨wanted_no 35 126 rfl rfl rfl (hD 35 (by kernel_rfl) _ 126 rfl rfl) (by decide), rfl⟩
                  · obtain rfl := Option.some.inj hi
                    exact .inr ⟨wanted_no 35 126 rfl rfl rfl (hD 35 (by kernel_rfl) _ 126 rfl rfl) (by decide), rfl⟩
                  · obtain rfl := Option.some.inj hi
                    exact .inr ⟨wanted_no 35 126 rfl rfl rfl (hD 35 (by kernel_rfl) _ 126 rfl rfl) (by decide), rfl⟩
                  · obtain rfl := Option.some.inj hi
                    have e126 : a.tmps.getD 126 undef = .bool false := hD 35 (by kernel_rfl) _ 126 rfl rfl
                    have e129 : a.tmps.getD 129 undef = undef := hD 38 (by kernel_rfl) _ 129 rfl rfl
                    refine .inl ⟨wanted_yes 29 120 rfl rfl rfl (hD 29 (by kernel_rfl) _ 120 rfl rfl), mid_step (.bool false) wx (fun K hK => ?_) ⟨_, rfl, rfl, Below.refl _ _⟩⟩
                    go_simp
                    first | exact hK | simpa using hK
                  · obtain rfl := Option.some.inj hi
                    have e122 : a.tmps.getD 122 undef = .bool zz := hD 31 (by kernel_rfl) _ 122 rfl rfl
                    have e130 : a.tmps.getD 130 undef = .bool false := hD 39 (by kernel_rfl) _ 130 rfl rfl
                    subst hzz0
                    refine .inl ⟨wanted_yes 29 120 rfl rfl rfl (hD 29 (by kernel_rfl) _ 120 rfl rfl), mid_step (.bool true) wx (fun K hK => ?_) ⟨_, rfl, rfl, Below.refl _ _⟩⟩
                    go_simp
                    first | exact hK | simpa using hK
                  · obtain rfl := Option.some.inj hi
                    have e120 : a.tmps.getD 120 undef = .bool true := hD 29 (by kernel_rfl) _ 120 rfl rfl
                    have e131 : a.tmps.getD 131 undef = .bool true := hD 40 (by kernel_rfl) _ 131 rfl rfl
                    refine .inl ⟨rfl, mid_step (.bool true) wx (fun K hK => ?_) ⟨_, rfl, rfl, Below.refl _ _⟩⟩
                    go_simp
                    first | exact hK | simpa using hK
                  · obtain rfl := Option.some.inj hi
                    have e132 : a.tmps.getD 132 undef = .bool true := hD 41 (by kernel_rfl) _ 132 rfl rfl
                    refine .inl ⟨rfl, mid_step (.bool true) wx (fun K hK => ?_) ⟨_, rfl, rfl, Below.refl _ _⟩⟩
                    go_simp
                    first | exact hK | simpa using hK
                  · obtain rfl := Option.some.inj hi
                    obtain ⟨K1, K2, K3, K4, K5, K6, K7, K8, K9, K10⟩ := HXZ.out wx hM.below
                    refine .inl ⟨wanted_yes 42 133 rfl rfl rfl (hD 42 (by kernel_rfl) _ 133 rfl rfl), mid_call (fun v w' => v = .bool true ∧ Below wx.heap.size wx w') (fun K hK => ?_) (fun v w' h => ⟨v, rfl, h.1, h.2⟩)⟩
                    go_simp
                    refine (WK.out wx K9).mono ?_
                    rintro e w' ⟨rfl, hb'⟩
                    exact hK _ _ ⟨rfl, hb'⟩
                  · obtain rfl := Option.some.inj hi
                    have e133 : a.tmps.getD 133 undef = .bool true := hD 42 (by kernel_rfl) _ 133 rfl rfl
                    have e134 : a.tmps.getD 134 undef = .bool true := hD 43 (by kernel_rfl) _ 134 rfl rfl
                    refine .inl ⟨rfl, mid_step (.bool true) wx (fun K hK => ?_) ⟨_, rfl, rfl, Below.refl _ _⟩⟩
                    go_simp
                    first | exact hK | simpa using hK
                  · obtain rfl := Option.some.inj hi
                    have e135 : a.tmps.getD 135 undef = .bool true := hD 44 (by kernel_rfl) _ 135 rfl rfl
                    refine .inl ⟨rfl, mid_step (.bool true) wx (fun K hK => ?_) ⟨_, rfl, rfl, Below.refl _ _⟩⟩
                    go_simp
                    first | exact hK | simpa using hK
                · intro a wx hM hD
                  have q0 := hD 0 (by decide) _ 91 rfl rfl
                  have q1 := hD 1 (by decide) _ 92 rfl rfl
                  have q2 := hD 2 (by decide) _ 93 rfl rfl
                  have q3 := hD 3 (by decide) _ 94 rfl rfl
                  have q4 := hD 4 (by decide) _ 95 rfl rfl
                  have q5 := hD 5 (by decide) _ 96 rfl rfl
                  have q6 := hD 6 (by decide) _ 97 rfl rfl
                  have q7 := hD 7 (by decide) _ 98 rfl rfl
                  have q8 := hD 8 (by decide) _ 99 rfl rfl
                  obtain ⟨uv, e100, ks⟩ := hD 9 (by decide) _ 100 rfl rfl
                  have q9 : a.tmps.getD 100 undef = uv := by assumption
                  have q10 := hD 10 (by decide) _ 101 rfl rfl
                  have q11 := hD 11 (by decide) _ 102 rfl rfl
                  have q12 := hD 12 (by decide) _ 103 rfl rfl
                  have q13 := hD 13 (by decide) _ 104 rfl rfl
                  have q14 := hD 14 (by decide) _ 105 rfl rfl
                  have q15 := hD 15 (by decide) _ 106 rfl rfl
                  have q16 := hD 16 (by decide) _ 107 rfl rfl
                  have q17 := hD 17 (by decide) _ 108 rfl rfl
                  have q18 := hD 18 (by decide) _ 109 rfl rfl
                  have q19 := hD 19 (by decide) _ 110 rfl rfl
                  have q20 := hD 20 (by decide) _ 111 rfl rfl
                  have q21 := hD 21 (by decide) _ 112 rfl rfl
                  have q22 := hD 22 (by decide) _ 113 rfl rfl
                  have q23 := hD 23 (by decide) _ 114 rfl rfl
                  have q24 := hD 24 (by decide) _ 115 rfl rfl
                  have q25 := hD 25 (by decide) _ 116 rfl rfl
                  have q26 := hD 26 (by decide) _ 117 rfl rfl
                  have q27 := hD 27 (by decide) _ 118 rfl rfl
                  have q28 := hD 28 (by decide) _ 119 rfl rfl
                  have q29 := hD 29 (by decide) _ 120 rfl rfl
                  have q30 := hD 30 (by decide) _ 121 rfl rfl
                  have q31 := hD 31 (by decide) _ 122 rfl rfl
                  have q32 := hD 32 (by decide) _ 123 rfl rfl
                  have q33 := hD 33 (by decide) _ 124 rfl rfl
                  have q34 := hD 34 (by decide) _ 125 rfl rfl
                  have q35 := hD 35 (by decide) _ 126 rfl rfl
                  have q36 := hD 36 (by decide) _ 127 rfl rfl
                  have q37 := hD 37 (by decide) _ 128 rfl rfl
                  have q38 := hD 38 (by decide) _ 129 rfl rfl
                  have q39 := hD 39 (by decide) _ 130 rfl rfl
                  have q40 := hD 40 (by decide) _ 131 rfl rfl
                  have q41 := hD 41 (by decide) _ 132 rfl rfl
                  have q42 := hD 42 (by decide) _ 133 rfl rfl
                  have q43 := hD 43 (by decide) _ 134 rfl rfl
                  have q44 := hD 44 (by decide) _ 135 rfl rfl
                  have q45 := hD 45 (by decide) _ 8 rfl rfl
                  have hact := act_puts (a := a) [(91, .agg #[xa0, xa1, xa2, xa3, xa4, xa5, xa6, xa7, xa8, xa9, xa10]), (92, .agg #[xo0, xo1, xo2, xo3, xo4, xo5, xo6, xo7, xo8, xo9, xo10]), (93, .bool sb), (94, .agg #[xu0, xu1, xu2, xu3, xu4, xu5, xu6, xu7, xu8, xu9, xu10]), (95, .agg #[xs0, xs1, xs2, xs3, xs4, xs5, xs6, xs7, xs8, xs9, xs10]), (96, .bool sb), (97, .bool true), (98, .bool true), (99, .agg #[xa0, xa1, xa2, xa3, xa4, xa5, xa6, xa7, xa8, xa9, xa10]), (100, uv), (101, .agg #[xu0, xu1, xu2, xu3, xu4, xu5, xu6, xu7, xu8, xu9, xu10]), (102, .bool true), (103, .bool true), (104, .bool true), (105, .agg #[.int .u64 (p : Int), .int .u64 (q : Int)]), (106, .agg #[.int .u64 (x : Int), .int .u64 (y : Int)]), (107, .int .i64 (cmpV p q x y)), (108, .agg #[.int .u64 (p : Int), .int .u64 (q : Int)]), (109, .agg #[.int .u64 (x : Int), .int .u64 (y : Int)]), (110, .int .i64 (cmpV p q x y)), (111, .bool true), (112, .bool true), (113, .bool true), (114, .agg #[.int .u64 (p : Int), .int .u64 (q : Int)]), (115, .string ⟨(verL p q).toArray⟩), (116, .agg #[.int .u64 (p : Int), .int .u64 (q : Int)]), (117, .string ⟨(verL p q).toArray⟩), (118, .bool true), (119, .bool true), (120, .bool true), (121, .agg #[.int .u64 (p : Int), .int .u64 (q : Int)]), (122, .bool zz), (123, .pointer (some ⟨w.heap.size + 2, 0, none⟩)), (124, .int .u64 (p : Int)), (125, .bool false), (126, .bool false), (127, undef), (128, undef), (129, undef), (130, .bool false), (131, .bool true), (132, .bool true), (133, .bool true), (134, .bool true), (135, .bool true), (8, .bool true)] _ hM.tmps hM.defers (by
                    intro s v hm
                    simp only [List.mem_cons, Prod.mk.injEq, List.not_mem_nil, or_false] at hm
                    rcases hm with ⟨rfl, rfl⟩ | ⟨rfl, rfl⟩ | ⟨rfl, rfl⟩ | ⟨rfl, rfl⟩ | ⟨rfl, rfl⟩ | ⟨rfl, rfl⟩ | ⟨rfl, rfl⟩ | ⟨rfl, rfl⟩ | ⟨rfl, rfl⟩ | ⟨rfl, rfl⟩ | ⟨rfl, rfl⟩ | ⟨rfl, rfl⟩ | ⟨rfl, rfl⟩ | ⟨rfl, rfl⟩ | ⟨rfl, rfl⟩ | ⟨rfl, rfl⟩ | ⟨rfl, rfl⟩ | ⟨rfl, rfl⟩ | ⟨rfl, rfl⟩ | ⟨rfl, rfl⟩ | ⟨rfl, rfl⟩ | ⟨rfl, rfl⟩ | ⟨rfl, rfl⟩ | ⟨rfl, rfl⟩ | ⟨rfl, rfl⟩ | ⟨rfl, rfl⟩ | ⟨rfl, rfl⟩ | ⟨rfl, rfl⟩ | ⟨rfl, rfl⟩ | ⟨rfl, rfl⟩ | ⟨rfl, rfl⟩ | ⟨rfl, rfl⟩ | ⟨rfl, rfl⟩ | ⟨rfl, rfl⟩ | ⟨rfl, rfl⟩ | ⟨rfl, rfl⟩ | ⟨rfl, rfl⟩ | ⟨rfl, rfl⟩ | ⟨rfl, rfl⟩ | ⟨rfl, rfl⟩ | ⟨rfl, rfl⟩ | ⟨rfl, rfl⟩ | ⟨rfl, rfl⟩ | ⟨rfl, rfl⟩ | ⟨rfl, rfl⟩ | ⟨rfl, rfl⟩
                    · exact ⟨(by show 91 < 136; decide), q0⟩
                    · exact ⟨(by show 92 < 136; decide), q1⟩
                    · exact ⟨(by show 93 < 136; decide), q2⟩
                    · exact ⟨(by show 94 < 136; decide), q3⟩
                    · exact ⟨(by show 95 < 136; decide), q4⟩
                    · exact ⟨(by show 96 < 136; decide), q5⟩
                    · exact ⟨(by show 97 < 136; decide), q6⟩
                    · exact ⟨(by show 98 < 136; decide), q7⟩
                    · exact ⟨(by show 99 < 136; decide), q8⟩
                    · exact ⟨(by show 100 < 136; decide), q9⟩
                    · exact ⟨(by show 101 < 136; decide), q10⟩
                    · exact ⟨(by show 102 < 136; decide), q11⟩
                    · exact ⟨(by show 103 < 136; decide), q12⟩
                    · exact ⟨(by show 104 < 136; decide), q13⟩
                    · exact ⟨(by show 105 < 136; decide), q14⟩
                    · exact ⟨(by show 106 < 136; decide), q15⟩
                    · exact ⟨(by show 107 < 136; decide), q16⟩
                    · exact ⟨(by show 108 < 136; decide), q17⟩
                    · exact ⟨(by show 109 < 136; decide), q18⟩
                    · exact ⟨(by show 110 < 136; decide), q19⟩
                    · exact ⟨(by show 111 < 136; decide), q20⟩
                    · exact ⟨(by show 112 < 136; decide), q21⟩
                    · exact ⟨(by show 113 < 136; decide), q22⟩
                    · exact ⟨(by show 114 < 136; decide), q23⟩
                    · exact ⟨(by show 115 < 136; decide), q24⟩
                    · exact ⟨(by show 116 < 136; decide), q25⟩
                    · exact ⟨(by show 117 < 136; decide), q26⟩
                    · exact ⟨(by show 118 < 136; decide), q27⟩
                    · exact ⟨(by show 119 < 136; decide), q28⟩
                    · exact ⟨(by show 120 < 136; decide), q29⟩
                    · exact ⟨(by show 121 < 136; decide), q30⟩
                    · exact ⟨(by show 122 < 136; decide), q31⟩
                    · exact ⟨(by show 123 < 136; decide), q32⟩
                    · exact ⟨(by show 124 < 136; decide), q33⟩
                    · exact ⟨(by show 125 < 136; decide), q34⟩
                    · exact ⟨(by show 126 < 136; decide), q35⟩
                    · exact ⟨(by show 127 < 136; decide), q36⟩
                    · exact ⟨(by show 128 < 136; decide), q37⟩
                    · exact ⟨(by show 129 < 136; decide), q38⟩
                    · exact ⟨(by show 130 < 136; decide), q39⟩
                    · exact ⟨(by show 131 < 136; decide), q40⟩
                    · exact ⟨(by show 132 < 136; decide), q41⟩
                    · exact ⟨(by show 133 < 136; decide), q42⟩
                    · exact ⟨(by show 134 < 136; decide), q43⟩
                    · exact ⟨(by show 135 < 136; decide), q44⟩
                    · exact ⟨(by show 8 < 136; decide), q45⟩) (fun s hs => hM.other s (by exact hs))
                  rw [hact]
                  have hBX := hM.below
                  clear hact hD hM q0 q1 q2 q3 q4 q5 q6 q7 q8 q9 q10 q11 q12 q13 q14 q15 q16 q17 q18 q19 q20 q21 q22 q23 q24 q25 q26 q27 q28 q29 q30 q31 q32 q33 q34 q35 q36 q37 q38 q39 q40 q41 q42 q43 q44 q45
                  simp only [List.foldl, Act.put, List.setIfInBounds_toArray, List.set_cons_succ, List.set_cons_zero]
                  have HBZ := (HXZ.out wx hBX).2.2.2.2.2.2.2.2.1
                  clear hBX HXZ
                  go_wp2
                  go_ret
                  exact ⟨rfl, HBZ⟩
    · have hfo2 : decide (o.es.length ≤ 60 ∧ o.p.abs.count ≤ 60) = false := decide_eq_false hfo
      rw [decide_eq_true hfr] at FW
      rw [hfo2] at FO
      clear hL hO hE hfr hfo hfo2
      obtain ⟨k, t, x', wn, nn, v, p', A, c, es⟩ := r
      obtain ⟨k1, t1, x1, wn1, nn1, v1, p1, A1, c1, es1⟩ := o
      simp only [Rv.val, Rv.arr, Rv.sl, V.sl] at *
      obtain ⟨⟨hx1, hx2, hx3, hx4⟩, hsz, hb4⟩ := four_new w (.cells #[.int .i64 k, .int .u64 (t : Int), .int .u64 (x' : Int), .int .u64 (wn : Int), .int .u64 (nn : Int), .int .u64 (v : Int), .int .i64 p'.kind, .int .u64 (p'.a : Int), .int .u64 (p'.b : Int), .slice p'.addr p'.parts.length p'.cap, .slice A es.length c] 30) (.cells #[.int .i64 k1, .int .u64 (t1 : Int), .int .u64 (x1 : Int), .int .u64 (wn1 : Int), .int .u64 (nn1 : Int), .int .u64 (v1 : Int), .int .i64 p1.kind, .int .u64 (p1.a : Int), .int .u64 (p1.b : Int), .slice p1.addr p1.parts.length p1.cap, .slice A1 es1.length c1] 30) (.cells #[.int .u64 (p : Int), .int .u64 (q : Int)] 24) (.cells #[.int .u64 (x : Int), .int .u64 (y : Int)] 24)
      go_enter Tryz.func3, Tryz.ntmps3
      go_upto_region 1 with (fail)
      generalize (((w.alloc (.cells #[.int .i64 k, .int .u64 (t : Int), .int .u64 (x' : Int), .int .u64 (wn : Int), .int .u64 (nn : Int), .int .u64 (v : Int), .int .i64 p'.kind, .int .u64 (p'.a : Int), .int .u64 (p'.b : Int), .slice p'.addr p'.parts.length p'.cap, .slice A es.length c] 30)).alloc (.cells #[.int .i64 k1, .int .u64 (t1 : Int), .int .u64 (x1 : Int), .int .u64 (wn1 : Int), .int .u64 (nn1 : Int), .int .u64 (v1 : Int), .int .i64 p1.kind, .int .u64 (p1.a : Int), .int .u64 (p1.b : Int), .slice p1.addr p1.parts.length p1.cap, .slice A1 es1.length c1] 30)).alloc (.cells #[.int .u64 (p : Int), .int .u64 (q : Int)] 24)).alloc (.cells #[.int .u64 (x : Int), .int .u64 (y : Int)] 24) = w1 at *
      generalize Value.int .i64 k = xa0 at *
      generalize Value.int .u64 (t : Int) = xa1 at *
      generalize Value.int .u64 (x' : Int) = xa2 at *
      generalize Value.int .u64 (wn : Int) = xa3 at *
      generalize Value.int .u64 (nn : Int) = xa4 at *
      generalize Value.int .u64 (v : Int) = xa5 at *
      generalize Value.int .i64 p'.kind = xa6 at *
      generalize Value.int .u64 (p'.a : Int) = xa7 at *
      generalize Value.int .u64 (p'.b : Int) = xa8 at *
      generalize Value.slice p'.addr p'.parts.length p'.cap = xa9 at *
      generalize Value.slice A es.length c = xa10 at *
      generalize Value.int .i64 k1 = xo0 at *
      generalize Value.int .u64 (t1 : Int) = xo1 at *
      generalize Value.int .u64 (x1 : Int) = xo2 at *
      generalize Value.int .u64 (wn1 : Int) = xo3 at *
      generalize Value.int .u64 (nn1 : Int) = xo4 at *
      generalize Value.int .u64 (v1 : Int) = xo5 at *
      generalize Value.int .i64 p1.kind = xo6 at *
      generalize Value.int .u64 (p1.a : Int) = xo7 at *
      generalize Value.int .u64 (p1.b : Int) = xo8 at *
      generalize Value.slice p1.addr p1.parts.length p1.cap = xo9 at *
      generalize Value.slice A1 es1.length c1 = xo10 at *
      have hx0 : ((w1.cell? ⟨w.heap.size, 0, none⟩ = some xa0 ∧ w1.cell? ⟨w.heap.size, 1, none⟩ = some xa1 ∧ w1.cell? ⟨w.heap.size, 2, none⟩ = some xa2 ∧ w1.cell? ⟨w.heap.size, 3, none⟩ = some xa3 ∧ w1.cell? ⟨w.heap.size, 4, none⟩ = some xa4 ∧ w1.cell? ⟨w.heap.size, 5, none⟩ = some xa5 ∧ w1.cell? ⟨w.heap.size, 6, none⟩ = some xa6 ∧ w1.cell? ⟨w.heap.size, 7, none⟩ = some xa7 ∧ w1.cell? ⟨w.heap.size, 8, none⟩ = some xa8 ∧ w1.cell? ⟨w.heap.size, 9, none⟩ = some xa9 ∧ w1.cell? ⟨w.heap.size, 10, none⟩ = some xa10) ∧ (w1.cell? ⟨w.heap.size + 1, 0, none⟩ = some xo0 ∧ w1.cell? ⟨w.heap.size + 1, 1, none⟩ = some xo1 ∧ w1.cell? ⟨w.heap.size + 1, 2, none⟩ = some xo2 ∧ w1.cell? ⟨w.heap.size + 1, 3, none⟩ = some xo3 ∧ w1.cell? ⟨w.heap.size + 1, 4, none⟩ = some xo4 ∧ w1.cell? ⟨w.heap.size + 1, 5, none⟩ = some xo5 ∧ w1.cell? ⟨w.heap.size + 1, 6, none⟩ = some xo6 ∧ w1.cell? ⟨w.heap.size + 1, 7, none⟩ = some xo7 ∧ w1.cell? ⟨w.heap.size + 1, 8, none⟩ = some xo8 ∧ w1.cell? ⟨w.heap.size + 1, 9, none⟩ = some xo9 ∧ w1.cell? ⟨w.heap.size + 1, 10, none⟩ = some xo10)) := ⟨rec_cells hx1, rec_cells hx2⟩
      obtain ⟨⟨c0, c1, c2, c3, c4, c5, c6, c7, c8, c9, c10⟩, -⟩ := hx0
      go_wp2_with fail
      refine (FW.out w1 hb4).mono ?_
      rintro e w2 ⟨rfl, hb2⟩
      have hbw2 := hb4.trans (hb2.mono hb4.size)
      have hx2' := (hb2.block _ (by omega)).trans hx2
      clear c0 c1 c2 c3 c4 c5 c6 c7 c8 c9 c10
      obtain ⟨d0, d1, d2, d3, d4, d5, d6, d7, d8, d9, d10⟩ := rec_cells hx2'
      go_wp2_with fail
      refine (FO.out w2 hbw2).mono ?_
      rintro e w3 ⟨rfl, hb3⟩
      have hbw3 := hbw2.trans (hb3.mono hbw2.size)
      clear d0 d1 d2 d3 d4 d5 d6 d7 d8 d9 d10
      clear hx1 hx2 hx3 hx4
      go_wp2_with fail
      refine (WK.out _ hbw3).mono ?_
      rintro e w4 ⟨rfl, hb5⟩
      go_wp2
      go_ret
      exact ⟨rfl, hbw3.trans (hb5.mono hbw3.size)⟩
  · have hfr2 : decide (r.es.length ≤ 60 ∧ r.p.abs.count ≤ 60) = false := decide_eq_false hfr
    rw [hfr2] at FW
    clear hL hO hE hfr hfr2 FO
    obtain ⟨k, t, x', wn, nn, v, p', A, c, es⟩ := r
    obtain ⟨k1, t1, x1, wn1, nn1, v1, p1, A1, c1, es1⟩ := o
    simp only [Rv.val, Rv.arr, Rv.sl, V.sl] at *
    obtain ⟨⟨hx1, hx2, hx3, hx4⟩, hsz, hb4⟩ := four_new w (.cells #[.int .i64 k, .int .u64 (t : Int), .int .u64 (x' : Int), .int .u64 (wn : Int), .int .u64 (nn : Int), .int .u64 (v : Int), .int .i64 p'.kind, .int .u64 (p'.a : Int), .int .u64 (p'.b : Int), .slice p'.addr p'.parts.length p'.cap, .slice A es.length c] 30) (.cells #[.int .i64 k1, .int .u64 (t1 : Int), .int .u64 (x1 : Int), .int .u64 (wn1 : Int), .int .u64 (nn1 : Int), .int .u64 (v1 : Int), .int .i64 p1.kind, .int .u64 (p1.a : Int), .int .u64 (p1.b : Int), .slice p1.addr p1.parts.length p1.cap, .slice A1 es1.length c1] 30) (.cells #[.int .u64 (p : Int), .int .u64 (q : Int)] 24) (.cells #[.int .u64 (x : Int), .int .u64 (y : Int)] 24)
    go_enter Tryz.func3, Tryz.ntmps3
    go_upto_region 1 with (fail)
    generalize (((w.alloc (.cells #[.int .i64 k, .int .u64 (t : Int), .int .u64 (x' : Int), .int .u64 (wn : Int), .int .u64 (nn : Int), .int .u64 (v : Int), .int .i64 p'.kind, .int .u64 (p'.a : Int), .int .u64 (p'.b : Int), .slice p'.addr p'.parts.length p'.cap, .slice A es.length c] 30)).alloc (.cells #[.int .i64 k1, .int .u64 (t1 : Int), .int .u64 (x1 : Int), .int .u64 (wn1 : Int), .int .u64 (nn1 : Int), .int .u64 (v1 : Int), .int .i64 p1.kind, .int .u64 (p1.a : Int), .int .u64 (p1.b : Int), .slice p1.addr p1.parts.length p1.cap, .slice A1 es1.length c1] 30)).alloc (.cells #[.int .u64 (p : Int), .int .u64 (q : Int)] 24)).alloc (.cells #[.int .u64 (x : Int), .int .u64 (y : Int)] 24) = w1 at *
    generalize Value.int .i64 k = xa0 at *
    generalize Value.int .u64 (t : Int) = xa1 at *
    generalize Value.int .u64 (x' : Int) = xa2 at *
    generalize Value.int .u64 (wn : Int) = xa3 at *
    generalize Value.int .u64 (nn : Int) = xa4 at *
    generalize Value.int .u64 (v : Int) = xa5 at *
    generalize Value.int .i64 p'.kind = xa6 at *
    generalize Value.int .u64 (p'.a : Int) = xa7 at *
    generalize Value.int .u64 (p'.b : Int) = xa8 at *
    generalize Value.slice p'.addr p'.parts.length p'.cap = xa9 at *
    generalize Value.slice A es.length c = xa10 at *
    generalize Value.int .i64 k1 = xo0 at *
    generalize Value.int .u64 (t1 : Int) = xo1 at *
    generalize Value.int .u64 (x1 : Int) = xo2 at *
    generalize Value.int .u64 (wn1 : Int) = xo3 at *
    generalize Value.int .u64 (nn1 : Int) = xo4 at *
    generalize Value.int .u64 (v1 : Int) = xo5 at *
    generalize Value.int .i64 p1.kind = xo6 at *
    generalize Value.int .u64 (p1.a : Int) = xo7 at *
    generalize Value.int .u64 (p1.b : Int) = xo8 at *
    generalize Value.slice p1.addr p1.parts.length p1.cap = xo9 at *
    generalize Value.slice A1 es1.length c1 = xo10 at *
    have hx0 : ((w1.cell? ⟨w.heap.size, 0, none⟩ = some xa0 ∧ w1.cell? ⟨w.heap.size, 1, none⟩ = some xa1 ∧ w1.cell? ⟨w.heap.size, 2, none⟩ = some xa2 ∧ w1.cell? ⟨w.heap.size, 3, none⟩ = some xa3 ∧ w1.cell? ⟨w.heap.size, 4, none⟩ = some xa4 ∧ w1.cell? ⟨w.heap.size, 5, none⟩ = some xa5 ∧ w1.cell? ⟨w.heap.size, 6, none⟩ = some xa6 ∧ w1.cell? ⟨w.heap.size, 7, none⟩ = some xa7 ∧ w1.cell? ⟨w.heap.size, 8, none⟩ = some xa8 ∧ w1.cell? ⟨w.heap.size, 9, none⟩ = some xa9 ∧ w1.cell? ⟨w.heap.size, 10, none⟩ = some xa10) ∧ (w1.cell? ⟨w.heap.size + 1, 0, none⟩ = some xo0 ∧ w1.cell? ⟨w.heap.size + 1, 1, none⟩ = some xo1 ∧ w1.cell? ⟨w.heap.size + 1, 2, none⟩ = some xo2 ∧ w1.cell? ⟨w.heap.size + 1, 3, none⟩ = some xo3 ∧ w1.cell? ⟨w.heap.size + 1, 4, none⟩ = some xo4 ∧ w1.cell? ⟨w.heap.size + 1, 5, none⟩ = some xo5 ∧ w1.cell? ⟨w.heap.size + 1, 6, none⟩ = some xo6 ∧ w1.cell? ⟨w.heap.size + 1, 7, none⟩ = some xo7 ∧ w1.cell? ⟨w.heap.size + 1, 8, none⟩ = some xo8 ∧ w1.cell? ⟨w.heap.size + 1, 9, none⟩ = some xo9 ∧ w1.cell? ⟨w.heap.size + 1, 10, none⟩ = some xo10)) := ⟨rec_cells hx1, rec_cells hx2⟩
    obtain ⟨⟨c0, c1, c2, c3, c4, c5, c6, c7, c8, c9, c10⟩, ⟨d0, d1, d2, d3, d4, d5, d6, d7, d8, d9, d10⟩⟩ := hx0
    go_wp2_with fail
    refine (FW.out w1 hb4).mono ?_
    rintro e w2 ⟨rfl, hb2⟩
    have hbw2 := hb4.trans (hb2.mono hb4.size)
    have hbw3 := hbw2
    obtain ⟨w3, hw3⟩ : ∃ w3, w3 = w2 := ⟨_, rfl⟩
    subst hw3
    clear c0 c1 c2 c3 c4 c5 c6 c7 c8 c9 c10
    clear hx1 hx2 hx3 hx4
    go_wp2_with fail
    refine (WK.out _ hbw3).mono ?_
    rintro e w4 ⟨rfl, hb5⟩
    go_wp2
    go_ret
    exact ⟨rfl, hbw3.trans (hb5.mono hbw3.size)⟩
end Go.Proofs.YtiiiklenhmhccaaGreatDoor
