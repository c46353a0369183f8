/-
  Layer 4: works: the chapter's examples.
-/
import Derived.Test.YtpbmgbeiieapiaaGreatDoorZbTwk
import Derived.Test.YtpbmgbeiieapiaaGreatDoorHlp
import Derived.Test.YtpbmgbeiieapiaaGreatDoorThl

namespace Go.Proofs.YtpbmgbeiieapiaaGreatDoor
open Go Go.RowKit
set_option linter.unusedVariables false

theorem ans_open {f : FuncId} {args : Array Value} {w : World} {E : TypeId} {t : T} {z : Nat} (h : Calls Tryz.prog f args w (AnsEnd E (t, z) w)) :
    Calls Tryz.prog f args w fun e w' => ∃ u : V, e = .returned (.tuple #[.agg #[.int .i64 u.kind, .int .u64 (u.a : Int), .int .u64 (u.b : Int), .slice u.addr u.parts.length u.cap], .int .i64 (z : Int)]) ∧ u.abs = t ∧ Lies w' w.heap.size w'.heap.size u ∧ Shp E w' w.heap.size u ∧ Below w.heap.size w w' := h
theorem bs8 : bs [6, 2, 2, 7, 5, 4, 3, 1] = [.int .u8 6, .int .u8 2, .int .u8 2, .int .u8 7, .int .u8 5, .int .u8 4, .int .u8 3, .int .u8 1] := rfl

set_option maxRecDepth 100000 in
set_option maxHeartbeats 6400000 in
theorem works4_any (B : Nat) (w : World) (hE : Env B w) (hB : B ≤ w.heap.size) : Calls Tryz.prog 9 #[] w fun e w' => e = .returned (.bool true) ∧ Below w.heap.size w w' := by
  have RD : Hid (∀ (s : List UInt8) (W : World), Below w.heap.size w W → s.length ≤ 1000 → Calls Tryz.prog 37 #[.string ⟨s.toArray⟩] W (AnsEnd 25 (ansT (readT s)) W)) := fun s W h hl => pread_any s B W (hE.under h hB) (by have := h.size; omega) (by omega)
  have R1 := RD.out [38, 40, 120, 60, 61, 55, 44, 33, 118, 37, 51, 61, 49, 41] w (Below.refl _ _) (by decide)
  rw [ex1] at R1
  have R1 := ans_open R1
  clear hE
  go_enter Tryz.func9, Tryz.ntmps9
  go_wp2_with fail
  refine R1.mono ?_
  rintro e w1 ⟨u, rfl, hu, hL, -, hb1⟩
  have s1 := hb1.size
  have bx := below_new w1 (.cells #[.int .i64 u.kind, .int .u64 (u.a : Int), .int .u64 (u.b : Int), .slice u.addr u.parts.length u.cap] 25)
  have rx := heap_alloc_new w1 (.cells #[.int .i64 u.kind, .int .u64 (u.a : Int), .int .u64 (u.b : Int), .slice u.addr u.parts.length u.cap] 25)
  have sx : (w1.alloc (.cells #[.int .i64 u.kind, .int .u64 (u.a : Int), .int .u64 (u.b : Int), .slice u.addr u.parts.length u.cap] 25)).heap.size = w1.heap.size + 1 := by simp
  clear R1
  go_upto_region 2 with (fail)
  generalize w1.alloc (.cells #[.int .i64 u.kind, .int .u64 (u.a : Int), .int .u64 (u.b : Int), .slice u.addr u.parts.length u.cap] 25) = w2 at *
  have hLW : Hid (∀ W, Below w2.heap.size w2 W → Lies W w.heap.size w1.heap.size u) := fun W hW => (hL.under bx).under (hW.mono bx.size)
  have hct : u.abs.count ≤ 1000 := by rw [hu]; decide
  have HC : Hid (∀ W, Below w2.heap.size w2 W → W.cell? ⟨w1.heap.size, 0, none⟩ = some (.int .i64 u.kind) ∧ W.cell? ⟨w1.heap.size, 1, none⟩ = some (.int .u64 (u.a : Int)) ∧ W.cell? ⟨w1.heap.size, 2, none⟩ = some (.int .u64 (u.b : Int)) ∧ W.cell? ⟨w1.heap.size, 3, none⟩ = some (.slice u.addr u.parts.length u.cap)) := fun W hW => by
    have hx := (hW.block w1.heap.size (by omega)).trans rx
    exact ⟨(cell_of_row W _ 0 _ _ _ hx).trans rfl, (cell_of_row W _ 1 _ _ _ hx).trans rfl, (cell_of_row W _ 2 _ _ _ hx).trans rfl, (cell_of_row W _ 3 _ _ _ hx).trans rfl⟩
  have PU : Hid (∀ W, Below w2.heap.size w2 W → Calls Tryz.prog 11 #[.agg #[.int .i64 u.kind, .int .u64 (u.a : Int), .int .u64 (u.b : Int), .slice u.addr u.parts.length u.cap]] W (Made 5 [6, 2, 2, 7, 5, 4, 3, 1] W)) := fun W hW => by
    have := pput_any u W _ _ (hLW.out W hW) (by have := hW.size; omega)
    rw [hu, ex_put] at this
    exact this
  have HO : Hid (∀ (x y : Nat) (r : Bool) (W : World), Below w2.heap.size w2 W → x < 100 → y < 100 → (exT.rightB && exT.askB x y) = r → Calls Tryz.prog 26 #[.agg #[.int .i64 u.kind, .int .u64 (u.a : Int), .int .u64 (u.b : Int), .slice u.addr u.parts.length u.cap], .int .u64 (x : Int), .int .u64 (y : Int)] W fun e w' => e = .returned (.bool r) ∧ Below W.heap.size W w') := fun x y r W hW hx hy hr => by
    have := pholds_any x y (by omega) (by omega) u W _ _ (hLW.out W hW) (by have := hW.size; omega) hct
    rw [hu, hr] at this
    exact this
  have DP : Hid (∀ W, Below w2.heap.size w2 W → Calls Tryz.prog 22 #[.agg #[.int .i64 u.kind, .int .u64 (u.a : Int), .int .u64 (u.b : Int), .slice u.addr u.parts.length u.cap]] W fun e w' => e = .returned (.int .i64 3) ∧ Below W.heap.size W w') := fun W hW => by
    have := pdepth_any u W _ _ (hLW.out W hW) (by have := hW.size; omega) hct
    rw [hu] at this
    exact this
  have ND : Hid (∀ W, Below w2.heap.size w2 W → Calls Tryz.prog 24 #[.agg #[.int .i64 u.kind, .int .u64 (u.a : Int), .int .u64 (u.b : Int), .slice u.addr u.parts.length u.cap]] W fun e w' => e = .returned (.int .i64 4) ∧ Below W.heap.size W w') := fun W hW => by
    have := pnodes_any u W _ _ (hLW.out W hW) (by have := hW.size; omega) hct
    rw [hu] at this
    exact this
  have bw2 := hb1.trans (bx.mono s1)
  clear hL hLW hu hct bx rx
  have cw1 := Below.refl w2.heap.size w2
  have R2 := RD.out [118, 37, 51, 61, 51] w2 bw2 (by decide)
  rw [ex2] at R2
  have R2 := ans_open R2
  go_wp2_with fail
  refine R2.mono ?_
  rintro e v2 ⟨u2, rfl, -, -, -, hv2⟩
  have bv2 := below_new v2 (.cells #[.int .i64 u2.kind, .int .u64 (u2.a : Int), .int .u64 (u2.b : Int), .slice u2.addr u2.parts.length u2.cap] 25)
  have c2 := cw1.trans (hv2.mono cw1.size)
  have cw2 := c2.trans (bv2.mono c2.size)
  clear R2 hv2 bv2 c2 cw1
  go_upto_region 3 with (fail)
  generalize v2.alloc (.cells #[.int .i64 u2.kind, .int .u64 (u2.a : Int), .int .u64 (u2.b : Int), .slice u2.addr u2.parts.length u2.cap] 25) = w3 at *
  have R3 := RD.out [120, 60, 61, 48, 55] w3 (bw2.trans (cw2.mono bw2.size)) (by decide)
  rw [ex3] at R3
  have R3 := ans_open R3
  go_wp2_with fail
  refine R3.mono ?_
  rintro e v3 ⟨u3, rfl, -, -, -, hv3⟩
  have bv3 := below_new v3 (.cells #[.int .i64 u3.kind, .int .u64 (u3.a : Int), .int .u64 (u3.b : Int), .slice u3.addr u3.parts.length u3.cap] 25)
  have c3 := cw2.trans (hv3.mono cw2.size)
  have cw3 := c3.trans (bv3.mono c3.size)
  clear R3 hv3 bv3 c3 cw2
  go_upto_region 4 with (fail)
  generalize v3.alloc (.cells #[.int .i64 u3.kind, .int .u64 (u3.a : Int), .int .u64 (u3.b : Int), .slice u3.addr u3.parts.length u3.cap] 25) = w4 at *
  have R4 := RD.out [38, 40, 97, 108, 108, 44, 41] w4 (bw2.trans (cw3.mono bw2.size)) (by decide)
  rw [ex4] at R4
  have R4 := ans_open R4
  go_wp2_with fail
  refine R4.mono ?_
  rintro e v4 ⟨u4, rfl, -, -, -, hv4⟩
  have bv4 := below_new v4 (.cells #[.int .i64 u4.kind, .int .u64 (u4.a : Int), .int .u64 (u4.b : Int), .slice u4.addr u4.parts.length u4.cap] 25)
  have c4 := cw3.trans (hv4.mono cw3.size)
  have cw4 := c4.trans (bv4.mono c4.size)
  clear R4 hv4 bv4 c4 cw3
  go_upto_region 5 with (fail)
  generalize v4.alloc (.cells #[.int .i64 u4.kind, .int .u64 (u4.a : Int), .int .u64 (u4.b : Int), .slice u4.addr u4.parts.length u4.cap] 25) = w5 at *
  have P5 := PU.out w5 cw4
  obtain ⟨d0, d1, d2, d3⟩ := HC.out w5 cw4
  clear RD
  go_wp2_with fail
  refine P5.mono ?_
  rintro e w6 ⟨A6, c6, rfl, ho6, hb6⟩
  have cw6 := cw4.trans (hb6.mono cw4.size)
  have hnew := below_new w6 (.cells #[.int .u8 6, .int .u8 2, .int .u8 2, .int .u8 7, .int .u8 5, .int .u8 4, .int .u8 3, .int .u8 1] 5)
  have hlit := World.ownsRow_lit (base := w6.heap.size) (e := 5) (size := 1) w6 #[.int .u8 6, .int .u8 2, .int .u8 2, .int .u8 7, .int .u8 5, .int .u8 4, .int .u8 3, .int .u8 1] 8 (Nat.le_refl _) (by decide) rfl
  have SB := same_any _ _ A6 (some ⟨w6.heap.size, 0, none⟩) 8 8 c6 8 [6, 2, 2, 7, 5, 4, 3, 1] [6, 2, 2, 7, 5, 4, 3, 1] _ (Rd.own (own_below ho6 hnew (own_lt ho6))) (Rd.own hlit) (by omega)
  rw [eqB_self] at SB
  have cw7 := cw6.trans (hnew.mono cw6.size)
  clear P5 d0 d1 d2 d3 ho6 hb6 cw4 hnew hlit
  go_wp2_with fail
  refine SB.mono ?_
  rintro e w7 ⟨rfl, q, rfl⟩
  have cw8 := below_drew_ cw7 (n := q)
  generalize (w6.alloc (.cells #[.int .u8 6, .int .u8 2, .int .u8 2, .int .u8 7, .int .u8 5, .int .u8 4, .int .u8 3, .int .u8 1] 5)).drewN q = w8 at *
  clear SB cw7 cw6
  have H0 : Calls Tryz.prog 26 #[.agg #[.int .i64 u.kind, .int .u64 (u.a : Int), .int .u64 (u.b : Int), .slice u.addr u.parts.length u.cap], .int .u64 7, .int .u64 5] w8 fun e w' => e = .returned (.bool true) ∧ Below w8.heap.size w8 w' := HO.out 7 5 true w8 cw8 (by omega) (by omega) (by rfl)
  obtain ⟨d0, d1, d2, d3⟩ := HC.out w8 cw8
  go_wp2_with fail
  refine H0.mono ?_
  rintro e w9 ⟨rfl, hb9⟩
  have cw9 := cw8.trans (hb9.mono cw8.size)
  clear H0 hb9 d0 d1 d2 d3
  have H1 : Calls Tryz.prog 26 #[.agg #[.int .i64 u.kind, .int .u64 (u.a : Int), .int .u64 (u.b : Int), .slice u.addr u.parts.length u.cap], .int .u64 7, .int .u64 4] w9 fun e w' => e = .returned (.bool false) ∧ Below w9.heap.size w9 w' := HO.out 7 4 false w9 cw9 (by omega) (by omega) (by rfl)
  obtain ⟨d0, d1, d2, d3⟩ := HC.out w9 cw9
  go_wp2_with fail
  refine H1.mono ?_
  rintro e w10 ⟨rfl, hb10⟩
  have cw10 := cw9.trans (hb10.mono cw9.size)
  clear H1 hb10 d0 d1 d2 d3
  have H2 : Calls Tryz.prog 26 #[.agg #[.int .i64 u.kind, .int .u64 (u.a : Int), .int .u64 (u.b : Int), .slice u.addr u.parts.length u.cap], .int .u64 8, .int .u64 5] w10 fun e w' => e = .returned (.bool false) ∧ Below w10.heap.size w10 w' := HO.out 8 5 false w10 cw10 (by omega) (by omega) (by rfl)
  obtain ⟨d0, d1, d2, d3⟩ := HC.out w10 cw10
  go_wp2_with fail
  refine H2.mono ?_
  rintro e w11 ⟨rfl, hb11⟩
  have cw11 := cw10.trans (hb11.mono cw10.size)
  clear H2 hb11 d0 d1 d2 d3
  have D0 := DP.out w11 cw11
  obtain ⟨d0, d1, d2, d3⟩ := HC.out w11 cw11
  go_wp2_with fail
  refine D0.mono ?_
  rintro e w12 ⟨rfl, hb12⟩
  have cw12 := cw11.trans (hb12.mono cw11.size)
  clear D0 hb12 d0 d1 d2 d3
  have N0 := ND.out w12 cw12
  obtain ⟨d0, d1, d2, d3⟩ := HC.out w12 cw12
  go_wp2_with fail
  refine N0.mono ?_
  rintro e w13 ⟨rfl, hb13⟩
  have cw13 := cw12.trans (hb13.mono cw12.size)
  clear N0 hb13 d0 d1 d2 d3
  have HF := bw2.trans (cw13.mono bw2.size)
  go_wp2_with fail
  go_ret
  exact ⟨rfl, HF⟩

end Go.Proofs.YtpbmgbeiieapiaaGreatDoor
