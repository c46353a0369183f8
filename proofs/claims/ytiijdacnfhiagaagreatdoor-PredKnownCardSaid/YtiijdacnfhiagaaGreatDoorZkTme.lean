/-
  Layer 4: the statements' same, where both are the same.
  Layer 4: the law's walk: what the program reads is what the document reads.
  Layer 4: the program's Take, where taker.node is known.
  Layer 4: what PredKnown's walk asks: an append that leaves the old row; bytes and texts of trees; the other statements for whatever lies.
-/
import Derived.Test.YtiijdacnfhiagaaGreatDoorZkTwo
import Derived.Test.YtiijdacnfhiagaaGreatDoorZkTqp
import Derived.Test.YtiijdacnfhiagaaGreatDoorTex
import Derived.Test.YtiijdacnfhiagaaGreatDoorZkTdk
import Derived.Test.YtiijdacnfhiagaaGreatDoorZkTmd
import Derived.Test.YtiijdacnfhiagaaGreatDoorZkTqg
import Derived.Test.YtiijdacnfhiagaaGreatDoorZkTqr
import Derived.Test.YtiijdacnfhiagaaGreatDoorZkTqf
import Derived.Test.YtiijdacnfhiagaaGreatDoorZkTqo

namespace Go.Proofs.YtiijdacnfhiagaaGreatDoor
open Go Go.RowKit
set_option linter.unusedVariables false

set_option maxRecDepth 100000 in
set_option maxHeartbeats 3200000 in
theorem same4_any (u r : V) (n z : Int) (lo hi lo2 hi2 : Nat) (w : World) (hu : Lies w lo hi u) (hS : Shp 25 w lo u) (hhi : hi ≤ w.heap.size) (hlo : lo ≤ w.heap.size) (hr : Lies w lo2 hi2 r) (hhi2 : hi2 ≤ w.heap.size) (he : u.abs = r.abs) (hct : u.abs.count ≤ 1000) :
    Calls Tryz.prog 36 #[u.val, .int .i64 n, .int .i64 z, r.val, .int .i64 n, .int .i64 z] w fun e w' => e = .returned (.bool true) ∧ Below lo w w' := by
  have b1 := below_new w (.cells #[.int .i64 u.kind, .int .u64 (u.a : Int), .int .u64 (u.b : Int), .slice u.addr u.parts.length u.cap] 25)
  have r1 := heap_alloc_new w (.cells #[.int .i64 u.kind, .int .u64 (u.a : Int), .int .u64 (u.b : Int), .slice u.addr u.parts.length u.cap] 25)
  obtain ⟨w1, hw1⟩ : ∃ w1, w1 = w.alloc (.cells #[.int .i64 u.kind, .int .u64 (u.a : Int), .int .u64 (u.b : Int), .slice u.addr u.parts.length u.cap] 25) := ⟨_, rfl⟩
  have s1 : w1.heap.size = w.heap.size + 1 := by rw [hw1]; simp
  rw [← hw1] at b1 r1
  have b2 := below_new w1 (.cells #[.int .i64 r.kind, .int .u64 (r.a : Int), .int .u64 (r.b : Int), .slice r.addr r.parts.length r.cap] 30)
  have r2 := heap_alloc_new w1 (.cells #[.int .i64 r.kind, .int .u64 (r.a : Int), .int .u64 (r.b : Int), .slice r.addr r.parts.length r.cap] 30)
  obtain ⟨w2, hw2⟩ : ∃ w2, w2 = w1.alloc (.cells #[.int .i64 r.kind, .int .u64 (r.a : Int), .int .u64 (r.b : Int), .slice r.addr r.parts.length r.cap] 30) := ⟨_, rfl⟩
  have s2 : w2.heap.size = w.heap.size + 2 := by rw [hw2]; simp [s1]
  rw [← hw2, s1] at b2 r2
  have r12 := (b2.block w.heap.size (by omega)).trans r1
  have bw := b1.trans (b2.mono (by omega))
  have DE : Hid (∀ W, Below w2.heap.size w2 W → Calls Tryz.prog 10 #[.agg #[.int .i64 u.kind, .int .u64 (u.a : Int), .int .u64 (u.b : Int), .slice u.addr u.parts.length u.cap]] W fun e w' => ∃ x : V, e = .returned (.agg #[.int .i64 x.kind, .int .u64 (x.a : Int), .int .u64 (x.b : Int), .slice x.addr x.parts.length x.cap]) ∧ x.abs = u.abs ∧ Lies w' W.heap.size w'.heap.size x ∧ Shp 30 w' W.heap.size x ∧ Below W.heap.size W w') := fun W hW =>
    dexpr_any u W lo hi ((hu.under (bw.mono hhi)).under (hW.mono (by omega))) (by have := hW.size; omega) hct
  have RS : Hid (∀ (W W' : World) (x : V), Below w2.heap.size w2 W → x.abs = u.abs → Lies W' W.heap.size W'.heap.size x → Below W.heap.size W W' → Calls Tryz.prog 16 #[.agg #[.int .i64 x.kind, .int .u64 (x.a : Int), .int .u64 (x.b : Int), .slice x.addr x.parts.length x.cap], .agg #[.int .i64 r.kind, .int .u64 (r.a : Int), .int .u64 (r.b : Int), .slice r.addr r.parts.length r.cap]] W' fun e w' => e = .returned (.bool true) ∧ Below W'.heap.size W' w') := fun W W' x hW hx hL hb => by
    have hW' := hW.trans (hb.mono hW.size)
    have := rsame_any x r W' _ _ lo2 hi2 hL (Nat.le_refl _) ((hr.under (bw.mono hhi2)).under (hW'.mono (by omega))) (by have := hW'.size; omega)
    rw [hx, he, (sameB_iff _ _).2 rfl] at this
    exact this
  have SP : Hid (∀ W, Below w2.heap.size w2 W → Calls Tryz.prog 19 #[.agg #[.int .i64 u.kind, .int .u64 (u.a : Int), .int .u64 (u.b : Int), .slice u.addr u.parts.length u.cap]] W fun e w' => e = .returned (.tuple #[]) ∧ Below lo W w') := fun W hW => by
    have hbw := bw.trans (hW.mono bw.size)
    exact (spoil_expr u w W lo u.kind u.a u.b hS ((hS.under bw).under (hW.mono (Nat.le_refl _))) (by have := hbw.size; omega) (by have := hbw.size; omega) hct).mono fun e w' h => ⟨h.1, h.2.below⟩
  have HC : Hid (∀ W, Below w2.heap.size w2 W → (W.cell? ⟨w.heap.size, 0, none⟩ = some (.int .i64 u.kind) ∧ W.cell? ⟨w.heap.size, 1, none⟩ = some (.int .u64 (u.a : Int)) ∧ W.cell? ⟨w.heap.size, 2, none⟩ = some (.int .u64 (u.b : Int)) ∧ W.cell? ⟨w.heap.size, 3, none⟩ = some (.slice u.addr u.parts.length u.cap)) ∧
      W.cell? ⟨w.heap.size + 1, 0, none⟩ = some (.int .i64 r.kind) ∧ W.cell? ⟨w.heap.size + 1, 1, none⟩ = some (.int .u64 (r.a : Int)) ∧ W.cell? ⟨w.heap.size + 1, 2, none⟩ = some (.int .u64 (r.b : Int)) ∧ W.cell? ⟨w.heap.size + 1, 3, none⟩ = some (.slice r.addr r.parts.length r.cap)) := fun W hW => by
    have hx := (hW.block w.heap.size (by omega)).trans r12
    have hy := (hW.block (w.heap.size + 1) (by omega)).trans r2
    exact ⟨⟨(cell_of_row W _ 0 _ _ _ hx).trans rfl, (cell_of_row W _ 1 _ _ _ hx).trans rfl, (cell_of_row W _ 2 _ _ _ hx).trans rfl, (cell_of_row W _ 3 _ _ _ hx).trans rfl⟩, (cell_of_row W _ 0 _ _ _ hy).trans rfl, (cell_of_row W _ 1 _ _ _ hy).trans rfl, (cell_of_row W _ 2 _ _ _ hy).trans rfl, (cell_of_row W _ 3 _ _ _ hy).trans rfl⟩
  have HBW := Lib_hid bw
  have hnn : (n == n) = true := by simp
  have hzz : (z == z) = true := by simp
  subst hw2 hw1
  clear hu hS hr r1 r2 r12 b1 b2 s1 s2 bw he hct
  show Calls _ _ #[.agg #[.int .i64 u.kind, .int .u64 (u.a : Int), .int .u64 (u.b : Int), .slice u.addr u.parts.length u.cap], .int .i64 n, .int .i64 z, .agg #[.int .i64 r.kind, .int .u64 (r.a : Int), .int .u64 (r.b : Int), .slice r.addr r.parts.length r.cap], .int .i64 n, .int .i64 z] w _
  go_enter Tryz.func36, Tryz.ntmps36
  go_upto_region 1 with (fail)
  generalize (w.alloc _).alloc (.cells #[.int .i64 r.kind, .int .u64 (r.a : Int), .int .u64 (r.b : Int), .slice r.addr r.parts.length r.cap] 30) = w2 at *
  generalize u.addr = uA at *
  generalize u.cap = uc at *
  generalize u.parts.length = un at *
  generalize u.kind = uk at *
  generalize (u.a : Int) = ua at *
  generalize (u.b : Int) = ub at *
  generalize r.addr = rA at *
  generalize r.cap = rc at *
  generalize r.parts.length = rn at *
  generalize r.kind = rk at *
  generalize (r.a : Int) = ra at *
  generalize (r.b : Int) = rb at *
  go_region_held3 (fun W => (W.cell? ⟨w.heap.size, 0, none⟩ = some (.int .i64 uk) ∧ W.cell? ⟨w.heap.size, 1, none⟩ = some (.int .u64 ua) ∧ W.cell? ⟨w.heap.size, 2, none⟩ = some (.int .u64 ub) ∧ W.cell? ⟨w.heap.size, 3, none⟩ = some (.slice uA un uc)) ∧
      W.cell? ⟨w.heap.size + 1, 0, none⟩ = some (.int .i64 rk) ∧ W.cell? ⟨w.heap.size + 1, 1, none⟩ = some (.int .u64 ra) ∧ W.cell? ⟨w.heap.size + 1, 2, none⟩ = some (.int .u64 rb) ∧ W.cell? ⟨w.heap.size + 1, 3, none⟩ = some (.slice rA rn rc))
    (first | exact HC.out _ (below_like4 (Below.refl _ _) rfl rfl rfl rfl) | exact HC.out _ hbx | exact HC.out _ hby)
    ((first
      | (go_at_call 10; refine (DE.out _ (by exact below_like4 (Below.refl _ _) rfl rfl rfl rfl)).mono ?_; rintro e wx ⟨x, rfl, hxa, hxL, -, hxb⟩; have hbx : Below w2.heap.size w2 wx := ⟨hxb.os, hxb.tape, hxb.output, hxb.size, hxb.block⟩)
      | (go_at_call 16; refine (RS.out w2 wx x (Below.refl _ _) hxa hxL hbx).mono ?_; rintro e wy ⟨rfl, hyb⟩; have hby := hbx.trans (hyb.mono hbx.size))))
  all_goals
    obtain ⟨⟨d0, d1, d2, d3⟩, -⟩ := HC.out wy hby
    have S1 := SP.out wy hby
    go_wp2_with fail
    refine S1.mono ?_
    rintro e wz ⟨rfl, hz⟩
    have HF := (HBW.out.mono hlo).trans ((hby.mono (by have := HBW.out.size; omega)).trans hz)
    clear S1 d0 d1 d2 d3
    go_wp2_with fail
    go_ret
    exact ⟨rfl, HF⟩

end Go.Proofs.YtiijdacnfhiagaaGreatDoor

namespace Go.Proofs.YtiijdacnfhiagaaGreatDoor
open Go Go.RowKit
set_option linter.unusedVariables false

theorem readT_count (s : List UInt8) : (ansT (readT s)).1.count ≤ s.length + 1 := by
  unfold readT
  have key : ∀ o : Option (T × List UInt8), o = rdS 8 s → (ansT (match o with | some (t, []) => if t.rightB then some t else none | _ => none)).1.count ≤ s.length + 1 := by
    intro o ho
    rcases o with _ | ⟨t, _ | ⟨x, r⟩⟩
    · simp [ansT, T.count, T.countL]
    · have := rdS_count 8 s t [] ho.symm
      dsimp only
      split
      · simp only [ansT]; simp at this; omega
      · simp [ansT, T.count, T.countL]
    · simp [ansT, T.count, T.countL]
  exact key _ rfl

set_option maxRecDepth 100000 in
set_option maxHeartbeats 3200000 in
theorem predreads_any (s : List UInt8) (w : World) (hE : Env w.heap.size w) :
    Calls Tryz.prog 5 #[.string ⟨s.toArray⟩] w fun e w' => e = .returned (.bool true) ∧ Below w.heap.size w w' := by
  have hsz : (ByteArray.mk s.toArray).size = s.length := rfl
  have WK : Hid (∀ W, Below w.heap.size w W → Calls Tryz.prog 9 #[] W fun e w' => e = .returned (.bool true) ∧ Below W.heap.size W w') := fun W h =>
    works4_any w.heap.size W (hE.under h (Nat.le_refl _)) h.size
  by_cases h300 : s.length ≤ 300
  · have hlen : decide (((ByteArray.mk s.toArray).size : Int) > 300) = false := by rw [hsz]; exact decide_eq_false (by omega)
    have RD := ans_open (t := (ansT (readT s)).1) (z := (ansT (readT s)).2) (pread_any s w.heap.size w hE (Nat.le_refl _) (by omega))
    have RR : Hid (∀ W, Calls Tryz.prog 38 #[.string ⟨s.toArray⟩] W fun e w' => ∃ u : V, e = .returned (.tuple #[.agg #[.int .i64 u.kind, .int .u64 (u.a : Int), .int .u64 (u.b : Int), .slice u.addr u.parts.length u.cap], .int .i64 ((ansT (readT s)).2 : Int)]) ∧ u.abs = (ansT (readT s)).1 ∧ Lies w' W.heap.size w'.heap.size u ∧ Shp 30 w' W.heap.size u ∧ Below W.heap.size W w') := fun W => ans_open (rRead_any s W (by omega))
    have hct := readT_count s
    generalize (ansT (readT s)).1 = t at *
    generalize ((ansT (readT s)).2 : Int) = z at *
    clear hE
    go_enter Tryz.func5, Tryz.ntmps5
    go_wp2_with fail
    refine RD.mono ?_
    rintro e w1 ⟨u, rfl, hu, hL, hS, hb1⟩
    have s1 := hb1.size
    have bx := below_new w1 (.cells #[.int .i64 u.kind, .int .u64 (u.a : Int), .int .u64 (u.b : Int), .slice u.addr u.parts.length u.cap] 25)
    have rx := heap_alloc_new w1 (.cells #[.int .i64 u.kind, .int .u64 (u.a : Int), .int .u64 (u.b : Int), .slice u.addr u.parts.length u.cap] 25)
    have sx : (w1.alloc (.cells #[.int .i64 u.kind, .int .u64 (u.a : Int), .int .u64 (u.b : Int), .slice u.addr u.parts.length u.cap] 25)).heap.size = w1.heap.size + 1 := by simp
    clear RD
    go_upto_region 4 with (fail)
    generalize w1.alloc (.cells #[.int .i64 u.kind, .int .u64 (u.a : Int), .int .u64 (u.b : Int), .slice u.addr u.parts.length u.cap] 25) = w2 at *
    go_wp2_with fail
    refine (RR.out w2).mono ?_
    rintro e w3 ⟨r, rfl, hr, hM, -, hb3⟩
    have s3 := hb3.size
    have by' := below_new w3 (.cells #[.int .i64 r.kind, .int .u64 (r.a : Int), .int .u64 (r.b : Int), .slice r.addr r.parts.length r.cap] 30)
    have ry := heap_alloc_new w3 (.cells #[.int .i64 r.kind, .int .u64 (r.a : Int), .int .u64 (r.b : Int), .slice r.addr r.parts.length r.cap] 30)
    have sy : (w3.alloc (.cells #[.int .i64 r.kind, .int .u64 (r.a : Int), .int .u64 (r.b : Int), .slice r.addr r.parts.length r.cap] 30)).heap.size = w3.heap.size + 1 := by simp
    go_upto_region 5 with (fail)
    generalize w3.alloc (.cells #[.int .i64 r.kind, .int .u64 (r.a : Int), .int .u64 (r.b : Int), .slice r.addr r.parts.length r.cap] 30) = w4 at *
    have b24 := hb3.trans (by'.mono s3)
    have hx := (b24.block w1.heap.size (by omega)).trans rx
    have bw4 := (hb1.trans (bx.mono s1)).trans (b24.mono (by omega))
    have SM : Calls Tryz.prog 36 #[.agg #[.int .i64 u.kind, .int .u64 (u.a : Int), .int .u64 (u.b : Int), .slice u.addr u.parts.length u.cap], .int .i64 0, .int .i64 z, .agg #[.int .i64 r.kind, .int .u64 (r.a : Int), .int .u64 (r.b : Int), .slice r.addr r.parts.length r.cap], .int .i64 0, .int .i64 z] w4 fun e w' => e = .returned (.bool true) ∧ Below w.heap.size w4 w' := same4_any u r 0 z w.heap.size w1.heap.size w2.heap.size w3.heap.size w4 ((hL.under bx).under (b24.mono (by omega))) (((hS.under (bx.mono (by omega))).under (b24.mono (Nat.le_refl _)))) (by omega) (by omega) (hM.under by') (by omega) (hu.trans hr.symm) (by rw [hu]; omega)
    have cx0 := (cell_of_row w4 _ 0 _ _ _ hx).trans rfl
    have cx1 := (cell_of_row w4 _ 1 _ _ _ hx).trans rfl
    have cx2 := (cell_of_row w4 _ 2 _ _ _ hx).trans rfl
    have cx3 := (cell_of_row w4 _ 3 _ _ _ hx).trans rfl
    have cy0 := (cell_of_row w4 _ 0 _ _ _ ry).trans rfl
    have cy1 := (cell_of_row w4 _ 1 _ _ _ ry).trans rfl
    have cy2 := (cell_of_row w4 _ 2 _ _ _ ry).trans rfl
    have cy3 := (cell_of_row w4 _ 3 _ _ _ ry).trans rfl
    clear hx ry rx bx by' hL hS hM hu hr hb1 hb3 b24 RR
    generalize u.addr = uA at *
    generalize u.cap = uc at *
    generalize u.parts.length = un at *
    generalize u.kind = uk at *
    generalize (u.a : Int) = ua at *
    generalize (u.b : Int) = ub at *
    generalize r.addr = rA at *
    generalize r.cap = rc at *
    generalize r.parts.length = rn at *
    generalize r.kind = rk at *
    generalize (r.a : Int) = ra at *
    generalize (r.b : Int) = rb at *
    go_wp2_with fail
    refine SM.mono ?_
    rintro e w5 ⟨rfl, hb5⟩
    have bw5 := bw4.trans hb5
    have W1 := WK.out w5 bw5
    clear SM WK
    go_wp2_with fail
    refine W1.mono ?_
    rintro e w6 ⟨rfl, hb6⟩
    have bw6 := bw5.trans (hb6.mono bw5.size)
    go_wp2_with fail
    go_ret
    exact ⟨rfl, bw6⟩
  · have hlen : decide (((ByteArray.mk s.toArray).size : Int) > 300) = true := by rw [hsz]; exact decide_eq_true (by omega)
    have W1 := WK.out w (Below.refl _ _)
    clear hE WK
    go_enter Tryz.func5, Tryz.ntmps5
    go_wp2_with fail
    refine W1.mono ?_
    rintro e w6 ⟨rfl, hb6⟩
    go_wp2_with fail
    go_ret
    exact ⟨rfl, hb6⟩

end Go.Proofs.YtiijdacnfhiagaaGreatDoor

namespace Go.Proofs.YtiijdacnfhiagaaGreatDoor
open Go Go.RowKit
set_option linter.unusedVariables false

set_option maxRecDepth 100000 in
theorem pTake_ret {Q : Ending → World → Prop} {W : World} {h0 : Nat} {z z2 : Int} {x0 x1 x2 x3 : Value} (HR2 : W.heap[h0]? = some (.cells #[x0, x1, x2, x3] 25 (0, 0))) (HF2 : Q (.returned (.tuple #[.agg #[x0, x1, x2, x3], .int .i64 z, .int .i64 z2])) W)
    (tmps : Array Value) (h2 : tmps.getD 4 undef = .pointer (some ⟨h0, 0, none⟩)) (h3 : tmps.getD 5 undef = .int .i64 z) (h4 : tmps.getD 6 undef = .int .i64 z2) : bodyPost Tryz.prog Tryz.f32 Q .ret { tmps := tmps, defers := [] } W := by
  rw [Array.getD_eq_getD_getElem?] at h2 h3 h4
  have d0 := cell_of_row W _ 0 _ _ _ HR2
  have d1 := cell_of_row W _ 1 _ _ _ HR2
  have d2 := cell_of_row W _ 2 _ _ _ HR2
  have d3 := cell_of_row W _ 3 _ _ _ HR2
  simp at d0 d1 d2 d3
  exact bodyPost_ret (v := .tuple #[.agg #[x0, x1, x2, x3], .int .i64 z, .int .i64 z2]) (by simp [results, Tryz.results32, go_sem, h2, h3, h4, d0, d1, d2, d3]) rfl HF2

set_option maxRecDepth 100000 in
set_option maxHeartbeats 6400000 in
theorem pTake_in {l : List Nat} (Ab : Option Addr) (nb cb : Nat) (OK : TakeOK Ab nb cb l 8) (s : Nat) (B : Nat) (w : World) (hrd : Rd w B 1 Ab nb (bs l)) (hB : B ≤ w.heap.size) :
    Calls Tryz.prog 32 #[.slice Ab nb cb, .int .i64 (s : Int)] w (TkEnd 25 (ansK (takeT l (s : Int))) w) := by
  have hki : tkI l (s : Int) = tkS l 8 s := by unfold tkI; rw [if_neg (by omega), Int.toNat_natCast]
  have hs0 : decide ((s : Int) < 0) = false := by simp
  obtain ⟨w1, hw1⟩ : ∃ w1, w1 = w.alloc (.cells #[.int .i64 0, .int .u64 0, .int .u64 0, .slice none 0 0] 25) := ⟨_, rfl⟩
  have q1 := heap_alloc_new w (.cells #[.int .i64 0, .int .u64 0, .int .u64 0, .slice none 0 0] 25)
  have b1 := below_new w (.cells #[.int .i64 0, .int .u64 0, .int .u64 0, .slice none 0 0] 25)
  have s1 : w1.heap.size = w.heap.size + 1 := by rw [hw1]; simp
  rw [← hw1] at q1 b1
  obtain ⟨w2, hw2⟩ : ∃ w2, w2 = w1.alloc (.cells #[.int .i64 0, .slice Ab nb cb, .int .i64 (s : Int), .bool false] 77) := ⟨_, rfl⟩
  have g2 := heap_alloc_new w1 (.cells #[.int .i64 0, .slice Ab nb cb, .int .i64 (s : Int), .bool false] 77)
  have b2 := below_new w1 (.cells #[.int .i64 0, .slice Ab nb cb, .int .i64 (s : Int), .bool false] 77)
  have s2 : w2.heap.size = w.heap.size + 2 := by rw [hw2]; simp [s1]
  rw [← hw2] at g2 b2
  rw [s1] at g2 b2
  have g2 : w2.heap[w.heap.size + 1]? = some (TkrC 0 Ab nb cb (s : Int) false) := g2
  have q2 := (b2.block w.heap.size (by omega)).trans q1
  have hbw := b1.trans (b2.mono (by omega))
  have ND := OK 0 s false B (w.heap.size + 1) w2 g2 (hrd.below (hbw.mono hB)) (by omega) (fun _ => by omega) (by omega)
  have ND : Calls Tryz.prog 51 #[.pointer (some ⟨w.heap.size + 1, 0, none⟩), .int .i64 1] w2 (TdEnd Ab nb cb l 8 0 s false (w.heap.size + 1) w2) := ND
  have HOK : Hid (∀ t r, tkS l 8 s = some (t, r) → t.rightB = true → ansK (takeT l (s : Int)) = (t, r, 0)) := fun t r h1 h2 => by unfold takeT; rw [hki, h1]; simp [h2, ansK]
  have HNO : Hid ((∀ t r, tkS l 8 s = some (t, r) → t.rightB = false) → ansK (takeT l (s : Int)) = (.node 0 0 0 [], 0, 40)) := fun h => by
    unfold takeT
    rw [hki]
    cases h8 : tkS l 8 s with
    | none => rfl
    | some x =>
      obtain ⟨t, r⟩ := x
      simp [h t r h8, ansK]
  generalize ansK (takeT l (s : Int)) = o at *
  have HB2 := Lib_hid (And.intro hbw s2)
  have HBADEND : Hid (∀ W : World, W.heap[w.heap.size]? = some (.cells #[.int .i64 0, .int .u64 0, .int .u64 0, .slice none 0 0] 25 (0, 0)) → Below w.heap.size w W → (∀ t r, tkS l 8 s = some (t, r) → t.rightB = false) →
      TkEnd 25 o w (.returned (.tuple #[.agg #[.int .i64 0, .int .u64 0, .int .u64 0, .slice none 0 0], .int .i64 0, .int .i64 40])) (put4 W w.heap.size (.int .i64 0) (.int .u64 0) (.int .u64 0) (.slice none 0 0)) ∧
      (put4 W w.heap.size (.int .i64 0) (.int .u64 0) (.int .u64 0) (.slice none 0 0)).heap[w.heap.size]? = some (.cells #[.int .i64 0, .int .u64 0, .int .u64 0, .slice none 0 0] 25 (0, 0))) := by
    intro W h1 h2 h3
    rw [HNO.out h3]
    exact ⟨⟨.node 0 0 0 none 0 [], rfl, by simp [V.abs, V.absL], zero_lies _ _ _, zero_shp _ _ _, put4_below h2 (Nat.le_refl _) _ _ _ _⟩, put4_row h1 _ _ _ _⟩
  subst hw2 hw1
  clear b1 b2 q1 g2 hbw hrd OK hki
  go_enter Tryz.func32, Tryz.ntmps32
  go_upto_region 4 with (fail)
  generalize (w.alloc _).alloc (.cells #[.int .i64 0, .slice Ab nb cb, .int .i64 (s : Int), .bool false] 77) = w2 at *
  go_wp2_with fail
  refine ND.mono ?_
  rintro e w3 ⟨k, a, b, n, c, m', A, s', bad', rfl, hgr3, hg3, hR⟩
  have hb3 : Below w.heap.size w w3 := HB2.out.1.trans (⟨hgr3.os, hgr3.tape, hgr3.output, hgr3.size, fun i hi => hgr3.block i (by have := HB2.out.2; omega) (fun e => by injection e with e; omega)⟩ : Below w.heap.size w2 w3)
  have q3 := (hgr3.block w.heap.size (by have := HB2.out.2; omega) (fun e => by injection e with e; omega)).trans q2
  have s3 := hgr3.size
  have b4 := below_new w3 (.cells #[.int .i64 k, .int .u64 (a : Int), .int .u64 (b : Int), .slice A n c] 25)
  have r4 := heap_alloc_new w3 (.cells #[.int .i64 k, .int .u64 (a : Int), .int .u64 (b : Int), .slice A n c] 25)
  have q4 := (b4.block w.heap.size (by have := HB2.out.2; omega)).trans q3
  have g4 := (b4.block (w.heap.size + 1) (by have := HB2.out.2; omega)).trans hg3
  have hb4 := hb3.trans (b4.mono (by have := HB2.out.2; omega))
  have s4 : (w3.alloc (.cells #[.int .i64 k, .int .u64 (a : Int), .int .u64 (b : Int), .slice A n c] 25)).heap.size = w3.heap.size + 1 := by simp
  obtain ⟨hm, hok⟩ := hR.ok rfl
  have HB4B := Lib_hid b4
  have HL4 : Hid (bad' = false → ∃ t us, tkS l 8 s = some (t, s') ∧ (V.node k a b A c us).abs = t ∧ us.length = n ∧ Lies w3 w2.heap.size w3.heap.size (.node k a b A c us) ∧ Shp 25 w3 w2.heap.size (.node k a b A c us) ∧ t.count ≤ 32) := by
    intro hb
    rcases hok with ⟨t, us, e1, e2, e3, e4, e5, e6, e7, e8⟩ | ⟨_, h⟩
    · exact ⟨t, us, e1, e5, e6, e7, e8, by omega⟩
    · rw [h] at hb; cases hb
  have HBB : Hid (bad' = true → ∀ t r, tkS l 8 s = some (t, r) → t.rightB = false) := by
    intro hb t r' ht
    rcases hok with ⟨t', us, e1, e2, e3, e4, e5, e6, e7, e8⟩ | ⟨h, _⟩
    · rw [hb] at e3; cases e3
    · have := h t r' ht
      cases hr : t.rightB with
      | false => rfl
      | true => have := (right_all hr).2; omega
  clear ND hR hok hm hb3 q3 hg3 b4 q2 hgr3
  go_upto_region 5 with (fail)
  generalize w3.alloc (.cells #[.int .i64 k, .int .u64 (a : Int), .int .u64 (b : Int), .slice A n c] 25) = w4 at *
  have c1 := cell_of_row w4 _ 3 _ _ _ g4
  simp at c1
  cases bad' with
  | true =>
    have e0 := cell_of_row w4 _ 0 _ _ _ q4
    have e1 := cell_of_row w4 _ 1 _ _ _ q4
    have e2 := cell_of_row w4 _ 2 _ _ _ q4
    have e3 := cell_of_row w4 _ 3 _ _ _ q4
    have y0 := frozen_of_row w4 w.heap.size 0 _ _ q4
    have y1 := frozen_of_row w4 w.heap.size 1 _ _ q4
    have y2 := frozen_of_row w4 w.heap.size 2 _ _ q4
    have y3 := frozen_of_row w4 w.heap.size 3 _ _ q4
    simp at e0 e1 e2 e3
    have HX := Lib_hid (HBADEND.out w4 q4 hb4 (HBB.out rfl))
    clear q4 hb4
    go_wp2_with fail
    show bodyPost _ _ _ _ _ (put4 w4 w.heap.size (.int .i64 0) (.int .u64 0) (.int .u64 0) (.slice none 0 0))
    have HX2 := HX.out
    clear HX HBADEND e0 e1 e2 e3 y0 y1 y2 y3
    generalize put4 w4 w.heap.size (.int .i64 0) (.int .u64 0) (.int .u64 0) (.slice none 0 0) = W2 at *
    exact pTake_ret (z := 0) (z2 := 40) HX2.2 HX2.1 _ rfl rfl rfl
  | false =>
    · obtain ⟨t, us, e1, e2, rfl, hL, hS, hct⟩ := HL4.out rfl
      have hL4 := hL.under (HB4B.out.mono (Nat.le_refl _))
      have RR := pright_any (.node k a b A c us) w4 _ _ hL4 (by omega)
      rw [e2] at RR
      simp only [V.val, V.kind, V.a, V.b, V.sl, V.addr, V.parts, V.cap] at RR
      have d0 := cell_of_row w4 _ 0 _ _ _ r4
      have d1 := cell_of_row w4 _ 1 _ _ _ r4
      have d2 := cell_of_row w4 _ 2 _ _ _ r4
      have d3 := cell_of_row w4 _ 3 _ _ _ r4
      simp at d0 d1 d2 d3
      have HLS := Lib_hid (And.intro e1 (And.intro e2 (And.intro hL4 (hS.under HB4B.out))))
      clear e1 e2 hL hS hL4 HL4 hct HBB
      generalize hn : us.length = n at *
      have HUS := Lib_hid hn
      clear hn
      go_wp2_with fail
      refine RR.mono ?_
      rintro e w5 ⟨rfl, hb5⟩
      have q5 := (hb5.block w.heap.size (by omega)).trans q4
      have r5 := (hb5.block w3.heap.size (by omega)).trans r4
      have hbw5 := hb4.trans (hb5.mono hb4.size)
      have g5 := (hb5.block (w.heap.size + 1) (by have := HB2.out.2; omega)).trans g4
      have c5 := cell_of_row w5 _ 2 _ _ _ g5
      simp at c5
      clear g4 g5
      have HB5 := Lib_hid hb5
      clear RR d0 d1 d2 d3 c1 q4 r4 hb4 hb5
      cases hr : t.rightB with
      | true =>
        obtain ⟨e1, e2, hL4, hS4⟩ := HLS.out
        have HX : Hid (TkEnd 25 o w (.returned (.tuple #[.agg #[.int .i64 k, .int .u64 (a : Int), .int .u64 (b : Int), .slice A n c], .int .i64 (s' : Int), .int .i64 0])) (put4 w5.drew w.heap.size (.int .i64 k) (.int .u64 (a : Int)) (.int .u64 (b : Int)) (.slice A n c)) ∧
            (put4 w5.drew w.heap.size (.int .i64 k) (.int .u64 (a : Int)) (.int .u64 (b : Int)) (.slice A n c)).heap[w.heap.size]? = some (.cells #[.int .i64 k, .int .u64 (a : Int), .int .u64 (b : Int), .slice A n c] 25 (0, 0))) := by
          have h2s := HB2.out.2
          have h5s := HB5.out.size
          have hdz : w5.drew.heap.size = w5.heap.size := rfl
          rw [HOK.out t s' e1 hr]
          refine ⟨⟨.node k a b A c us, by rw [← HUS.out]; rfl, e2, ?_, ?_, put4_below (below_like4 hbw5 rfl rfl rfl rfl : Below w.heap.size w w5.drew) (Nat.le_refl _) _ _ _ _⟩, put4_row (w := w5.drew) q5 _ _ _ _⟩
          · rw [put4_size]
            exact (((hL4.under (HB5.out.mono (by omega))).under (below_like4 (Below.refl _ _) rfl rfl rfl rfl : Below _ w5 w5.drew)).keep fun p h1 _ => World.cell?_of_block (put4_else w5.drew (by omega) _ _ _ _)).more (by omega) (by omega)
          · exact (Shp.keepL _ (hL4.under (HB5.out.mono (by omega))) (hS4.under HB5.out) fun g' h1 _ => put4_else w5.drew (by omega) _ _ _ _).more (by omega)
        have e0 := cell_of_row w5 _ 0 _ _ _ q5
        have e1 := cell_of_row w5 _ 1 _ _ _ q5
        have e2 := cell_of_row w5 _ 2 _ _ _ q5
        have e3 := cell_of_row w5 _ 3 _ _ _ q5
        have y0 := frozen_of_row w5 w.heap.size 0 _ _ q5
        have y1 := frozen_of_row w5 w.heap.size 1 _ _ q5
        have y2 := frozen_of_row w5 w.heap.size 2 _ _ q5
        have y3 := frozen_of_row w5 w.heap.size 3 _ _ q5
        have f0 := cell_of_row w5 _ 0 _ _ _ r5
        have f1 := cell_of_row w5 _ 1 _ _ _ r5
        have f2 := cell_of_row w5 _ 2 _ _ _ r5
        have f3 := cell_of_row w5 _ 3 _ _ _ r5
        simp at e0 e1 e2 e3 f0 f1 f2 f3
        clear q5 r5 hbw5 hL4 hS4 HLS
        go_wp2_with fail
        go_region
        go_wp2_with fail
        show bodyPost _ _ _ _ _ (put4 w5.drew w.heap.size (.int .i64 k) (.int .u64 (a : Int)) (.int .u64 (b : Int)) (.slice A n c))
        have HX2 := HX.out
        clear HX HBADEND e0 e1 e2 e3 y0 y1 y2 y3 f0 f1 f2 f3
        generalize put4 w5.drew w.heap.size (.int .i64 k) (.int .u64 (a : Int)) (.int .u64 (b : Int)) (.slice A n c) = W2 at *
        exact pTake_ret (z := (s' : Int)) (z2 := 0) HX2.2 HX2.1 _ rfl rfl rfl
      | false =>
        have hno : ∀ t' r', tkS l 8 s = some (t', r') → t'.rightB = false := fun t' r' h => by
          have := HLS.out.1
          rw [h] at this
          injection this with this
          injection this with this _
          rw [this]; exact hr
        have e0 := cell_of_row w5 _ 0 _ _ _ q5
        have e1 := cell_of_row w5 _ 1 _ _ _ q5
        have e2 := cell_of_row w5 _ 2 _ _ _ q5
        have e3 := cell_of_row w5 _ 3 _ _ _ q5
        have y0 := frozen_of_row w5 w.heap.size 0 _ _ q5
        have y1 := frozen_of_row w5 w.heap.size 1 _ _ q5
        have y2 := frozen_of_row w5 w.heap.size 2 _ _ q5
        have y3 := frozen_of_row w5 w.heap.size 3 _ _ q5
        simp at e0 e1 e2 e3
        have HX := Lib_hid (HBADEND.out w5 q5 hbw5 hno)
        clear q5 hbw5
        go_wp2_with fail
        show bodyPost _ _ _ _ _ (put4 w5 w.heap.size (.int .i64 0) (.int .u64 0) (.int .u64 0) (.slice none 0 0))
        have HX2 := HX.out
        clear HX HBADEND e0 e1 e2 e3 y0 y1 y2 y3
        generalize put4 w5 w.heap.size (.int .i64 0) (.int .u64 0) (.int .u64 0) (.slice none 0 0) = W2 at *
        exact pTake_ret (z := 0) (z2 := 40) HX2.2 HX2.1 _ rfl rfl rfl

set_option maxRecDepth 100000 in
set_option maxHeartbeats 1600000 in
theorem pTake_neg {l : List Nat} (Ab : Option Addr) (nb cb : Nat) (s : Int) (hs : s < 0) (w : World) :
    Calls Tryz.prog 32 #[.slice Ab nb cb, .int .i64 s] w (TkEnd 25 (ansK (takeT l s)) w) := by
  have hki : takeT l s = none := by unfold takeT tkI; rw [if_pos hs]; rfl
  have hs0 : decide (s < 0) = true := by simpa using hs
  obtain ⟨w1, hw1⟩ : ∃ w1, w1 = w.alloc (.cells #[.int .i64 0, .int .u64 0, .int .u64 0, .slice none 0 0] 25) := ⟨_, rfl⟩
  have q1 := heap_alloc_new w (.cells #[.int .i64 0, .int .u64 0, .int .u64 0, .slice none 0 0] 25)
  have b1 := below_new w (.cells #[.int .i64 0, .int .u64 0, .int .u64 0, .slice none 0 0] 25)
  rw [← hw1] at q1 b1
  have y0 := frozen_of_row w1 w.heap.size 0 _ _ q1
  have y1 := frozen_of_row w1 w.heap.size 1 _ _ q1
  have y2 := frozen_of_row w1 w.heap.size 2 _ _ q1
  have y3 := frozen_of_row w1 w.heap.size 3 _ _ q1
  have e0 := cell_of_row w1 _ 0 _ _ _ q1
  have e1 := cell_of_row w1 _ 1 _ _ _ q1
  have e2 := cell_of_row w1 _ 2 _ _ _ q1
  have e3 := cell_of_row w1 _ 3 _ _ _ q1
  simp at e0 e1 e2 e3
  have HX : Hid (TkEnd 25 (ansK (takeT l s)) w (.returned (.tuple #[.agg #[.int .i64 0, .int .u64 0, .int .u64 0, .slice none 0 0], .int .i64 0, .int .i64 40])) (put4 w1 w.heap.size (.int .i64 0) (.int .u64 0) (.int .u64 0) (.slice none 0 0)) ∧
      (put4 w1 w.heap.size (.int .i64 0) (.int .u64 0) (.int .u64 0) (.slice none 0 0)).heap[w.heap.size]? = some (.cells #[.int .i64 0, .int .u64 0, .int .u64 0, .slice none 0 0] 25 (0, 0))) := by
    rw [hki]
    exact ⟨⟨.node 0 0 0 none 0 [], rfl, by simp [V.abs, V.absL, ansK], zero_lies _ _ _, zero_shp _ _ _, put4_below b1 (Nat.le_refl _) _ _ _ _⟩, put4_row q1 _ _ _ _⟩
  generalize ansK (takeT l s) = o at *
  clear q1 b1 hki
  go_enter Tryz.func32, Tryz.ntmps32
  go_upto_region 1 with (fail)
  rw [← hw1]
  clear hw1
  go_wp2_with fail
  show bodyPost _ _ _ _ _ (put4 w1 w.heap.size (.int .i64 0) (.int .u64 0) (.int .u64 0) (.slice none 0 0))
  have HX2 := HX.out
  clear HX e0 e1 e2 e3 y0 y1 y2 y3
  generalize put4 w1 w.heap.size (.int .i64 0) (.int .u64 0) (.int .u64 0) (.slice none 0 0) = W2 at *
  exact pTake_ret (z := 0) (z2 := 40) HX2.2 HX2.1 _ rfl rfl rfl

/-- Take at any place, where taker.node is known. -/
theorem pTakeO_any {l : List Nat} (Ab : Option Addr) (nb cb : Nat) (OK : TakeOK Ab nb cb l 8) (s : Int) (B : Nat) (w : World) (hrd : Rd w B 1 Ab nb (bs l)) (hB : B ≤ w.heap.size) :
    Calls Tryz.prog 32 #[.slice Ab nb cb, .int .i64 s] w (TkEnd 25 (ansK (takeT l s)) w) := by
  by_cases hs : s < 0
  · exact pTake_neg Ab nb cb s hs w
  · obtain ⟨a, rfl⟩ : ∃ a : Nat, s = (a : Int) := ⟨s.toNat, by omega⟩
    exact pTake_in Ab nb cb OK a B w hrd hB

end Go.Proofs.YtiijdacnfhiagaaGreatDoor

namespace Go.Proofs.YtiijdacnfhiagaaGreatDoor
open Go Go.RowKit
set_option linter.unusedVariables false

section
variable {P : Program}
/-- An append of one value leaves the old row as it was. -/
theorem run_app_keep (w : World) (base : Nat) (t ty e : TypeId) (i : TypeInfo) (z : Value) (size bytes : Nat) (ht : P.underlying t = some (.slice e)) (hi : P.info? e = some i) (hz : i.zero = some z)
    (hsize : i.size = size) (hby : i.bytes = bytes) (hzs : z.cells.size = size)
    (v : Value) (n : Nat) (xs : List Value) (hown : w.ownsRow base e size v n xs)
    (ad : Addr) (m c : Nat) (news : List Value) (hl : news.length = m * size) (hnews : ∀ j u, news[j]? = some u → w.cell? (ad.add j) = some u) (h1 : ∀ u ∈ news, u.oneCell' = true)
    (h63 : n + m ≤ maxLen) (hbytes : (n + m) * bytes ≤ 140737488355328) {v' : Value} {w' : World} (hr : (Builtin.append_ #[t, t] ty #[v, .slice (some ad) m c]).run P w = .ok v' w') : w'.ownsRow base e size v n xs := by
  subst hsize
  subst hby
  rcases hown.2 with ⟨rfl, rfl⟩ | ⟨g, cap, cur, rfl, hbg, hg, hnc, hcm, hcs, htake⟩
  · exact ⟨hown.1, .inl ⟨rfl, rfl⟩⟩
  · by_cases hroom : n + m ≤ cap
    · have hfit : n * i.size + news.length ≤ cur.size := by rw [hl, hcs, ← Nat.add_mul]; exact Nat.mul_le_mul_right _ hroom
      have hr2 := run_append_room (P := P) w t ty e i ht hi g n cap cur hg ad m c news hl hnews h1 hroom hfit
      rw [hr2] at hr
      injection hr with _ hw
      subst hw
      refine ⟨hown.1, .inr ⟨g, cap, _, rfl, hbg, setRow_heap w g cur _ e _ hg, hnc, hcm, ?_, ?_⟩⟩
      · simp only [List.size_toArray, List.length_append, List.length_take, List.length_drop, Array.length_toList]
        omega
      · have hxl : (cur.toList.take (n * i.size)).length = n * i.size := by rw [htake]; exact hown.1
        simp only [List.append_assoc]
        rw [List.take_append_of_le_length (by rw [hxl]; exact Nat.le_refl _), List.take_of_length_le (by rw [hxl]; exact Nat.le_refl _)]
        exact htake
    · have holds : ∀ j u, xs[j]? = some u → w.cell? ((⟨g, 0, none⟩ : Addr).add j) = some u := hown.cells (g := g) rfl
      have hsmall : n + m ≤ 9223372036854775807 := by simp only [maxLen] at h63; omega
      have hr2 := run_append_grow (P := P) w t ty e i z ht hi hz ⟨g, 0, none⟩ n cap xs hown.1 holds ad m c news hl hnews (by omega) (by omega) (growslice_fits (by omega) hbytes)
      rw [hr2] at hr
      injection hr with _ hw
      subst hw
      refine own_keep hown fun k hk => heap_alloc_old w.drew _ ?_
      exact own_lt hown k hk

theorem wpList_appk {w : World} {ops : Array Oper} {rest : List Oper} {o : Oper} {a : Act} {Q : Exit → Act → World → Prop} (hgd : Region.wanted o (yielded ops a.tmps) = true) (s x : Operand) (t : TypeId)
    (ho : o.op = .call { callee := .builtin .append, args := #[s, x], argTypes := #[t, t] })
    (base : Nat) (e : TypeId) (i : TypeInfo) (z : Value) (size bytes : Nat) (ht : P.underlying t = some (.slice e)) (hi : P.info? e = some i) (hz : i.zero = some z)
    (hsize : i.size = size) (hby : i.bytes = bytes) (hzs : z.cells.size = size) (hsz : 0 < size)
    (v : Value) (n : Nat) (xs : List Value) (hs : a.eval s = v) (hown : w.ownsRow base e size v n xs)
    (B : Nat) (ad : Addr) (m c : Nat) (news : List Value) (hx : a.eval x = .slice (some ad) m c) (hr : Rd w B size (some ad) m news) (hm : 0 < m) (h1 : ∀ u ∈ news, u.oneCell' = true)
    (h63 : n + m ≤ maxLen) (hbytes : (n + m) * bytes ≤ 140737488355328) (hbase : base ≤ w.heap.size)
    (h : ∀ v' w', w'.ownsRow base e size v' (n + m) (xs ++ news) → Stp w w' v v' → w'.ownsRow base e size v n xs → wpList P ops Q rest (a.put o.dst v') w') : wpList P ops Q (o :: rest) a w := by
  refine Go.BigFrame.wpList_want hgd fun _ hK => ?_
  obtain ⟨v', w', hrun, h2, h3⟩ := run_app (P := P) w base t o.type e i z size bytes ht hi hz hsize hby hzs hsz v n xs hown B (some ad) m c news hr h1 h63 hbytes hbase
  have hc : ∀ j u, news[j]? = some u → w.cell? (ad.add j) = some u := by
    obtain ⟨ad2, e2, _, hc⟩ := hr.lies hm
    injection e2 with e2
    subst e2
    exact hc
  have hk := run_app_keep (P := P) w base t o.type e i z size bytes ht hi hz hsize hby hzs v n xs hown ad m c news hr.len hc h1 h63 hbytes hrun
  unfold Oper.wp execOp
  simp only [ho, resolve, invoke, builtin, Sem.run_bind, Sem.run_pure, Result.andThen_ok, List.map_toArray, List.map_cons, List.map_nil, hs, hx, hrun]
  exact hK _ _ (h v' w' h2 h3 hk)
end

/-! ### Bytes and texts -/
theorem put_byte (t : T) : ∀ x ∈ t.put, x < 256 := by
  intro x hx
  unfold T.put at hx
  split at hx
  · exact stand_byte t (right_all (by assumption)).1 x hx
  · simp at hx
theorem put_len {w : World} {lo hi : Nat} {v : V} (h : Lies w lo hi v) : v.abs.put.length ≤ 31 * v.abs.count := by
  unfold T.put
  split
  · exact stand_len v h
  · simp
theorem text_pos (t : T) (h : 0 < t.put.length) : 0 < t.text.length := by
  unfold T.put at h
  split at h
  · rename_i hr
    unfold T.text
    rw [if_pos hr]
    have ha := (right_all hr).1
    cases t with
    | node k a b ps =>
      rw [T.allB] at ha
      simp only [Bool.and_eq_true] at ha
      have hf := ha.2
      rw [T.tell]
      by_cases h6 : 6 ≤ k
      · rw [if_pos h6]; simp only [List.length_append, List.length_cons, List.length_nil]; omega
      · have hk : k = 1 ∨ k = 2 ∨ k = 3 ∨ k = 4 ∨ k = 5 := by
          unfold fitsB at hf
          by_cases k1 : k = 1 <;> by_cases k2 : k = 2 <;> by_cases k3 : k = 3 <;> by_cases k4 : k = 4 <;> by_cases k5 : k = 5 <;> simp_all
          omega
        rw [List.length_append, List.length_append]
        have : 0 < (wordL k.toNat).length := by rcases hk with rfl | rfl | rfl | rfl | rfl <;> decide
        omega
  · simp at h

theorem text_len {w : World} {lo hi : Nat} {v : V} (h : Lies w lo hi v) : v.abs.text.length ≤ 50 * v.abs.count := by
  unfold T.text
  split
  · have := tell_len v h; omega
  · simp

/-- A row of texts, laid at once. -/
theorem strs_row (w : World) (cs : Array Value) (E : TypeId) (h : ∀ v ∈ cs.toList, ∃ X, v = .string X) (W' : World) (hb : Below (w.alloc (.cells cs E)).heap.size (w.alloc (.cells cs E)) W') (k : Nat) (hk : k < cs.size) : ∃ X, W'.cell? ⟨w.heap.size, k, none⟩ = some (.string X) := by
  have hr := (hb.block w.heap.size (by simp)).trans (heap_alloc_new w (.cells cs E))
  obtain ⟨X, hX⟩ := h cs[k] (by simp)
  refine ⟨X, ?_⟩
  rw [cell_of_row W' _ k _ _ _ hr, Array.getElem?_eq_getElem hk, hX]

/-- A node of no parts lies anywhere. -/
theorem leafZ_lies (w : World) (lo hi : Nat) (k : Int) (a b : Nat) (hk : -9223372036854775808 ≤ k ∧ k ≤ 9223372036854775807) (ha : a < 18446744073709551616) (hb : b < 18446744073709551616) : Lies w lo hi (.node k a b none 0 []) :=
  .mk k a b none 0 [] hk ha hb ⟨rfl, fun h => by simp at h⟩ ⟨Nat.le_refl _, by decide⟩ (fun ad e => by simp at e) (fun p hp => by simp at hp)
theorem leafZ_shp (E : TypeId) (w : World) (lo : Nat) (k : Int) (a b : Nat) : Shp E w lo (.node k a b none 0 []) :=
  .mk k a b none 0 [] (fun h => by simp at h) (fun p hp => by simp at hp)

/-- A tree in a row of one, under a node. -/
theorem up_lies {w : World} {lo hi : Nat} {v : V} (h : Lies w lo hi v) (hh : hi ≤ w.heap.size) (hl : lo ≤ w.heap.size) (E : TypeId) (k : Int) (hk : -9223372036854775808 ≤ k ∧ k ≤ 9223372036854775807) :
    Lies (w.alloc (.cells #[.int .i64 v.kind, .int .u64 (v.a : Int), .int .u64 (v.b : Int), .slice v.addr v.parts.length v.cap] E)) lo (w.heap.size + 1) (.node k 0 0 (some ⟨w.heap.size, 0, none⟩) 1 [v]) := by
  cases v with
  | node k0 a b A c ps =>
    have := h.single hh hl E
    cases this with
    | mk _ _ _ _ _ _ g1 g2 g3 g4 g5 g6 g7 => exact .mk k 0 0 _ 1 _ hk (by omega) (by omega) g4 g5 g6 g7

/-- A node whose parts stand in a block of their own. -/
theorem node_lies {w : World} {lo hi g : Nat} {E : TypeId} {arr : Array Value} {ps : List V} (hr : w.heap[g]? = some (.cells arr E (0, 0))) (ha : arr.toList = vCells ps) (h1 : lo ≤ g) (h2 : g < hi) (hps : ∀ p ∈ ps, Lies w lo hi p) (k : Int) (a b n : Nat) (hn : ps.length = n) (hn2 : n ≤ 100)
    (hk : -9223372036854775808 ≤ k ∧ k ≤ 9223372036854775807) (hA : a < 18446744073709551616) (hB : b < 18446744073709551616) : Lies w lo hi (.node k a b (some ⟨g, 0, none⟩) n ps) := by
  refine .mk k a b _ n ps hk hA hB ⟨vCells_length ps, fun _ => ⟨_, rfl, h2, fun j u hu => ?_⟩⟩ (by omega) (fun ad e _ => by injection e with e; subst e; exact h1) hps
  have e : (⟨g, 0, none⟩ : Addr).add j = ⟨g, j, none⟩ := by unfold Addr.add; split <;> simp_all
  rw [e, cell_of_row _ _ j _ _ _ hr, ← hu, ← ha]
  simp
/-- The world with the row of odd trees. -/
def oddW (w : World) (E : TypeId) : World :=
  (((w.alloc (.cells #[.int .i64 1, .int .u64 0, .int .u64 0, .slice none 0 0] E)).alloc (.cells #[.int .i64 1, .int .u64 0, .int .u64 0, .slice none 0 0, .int .i64 1, .int .u64 0, .int .u64 0, .slice none 0 0] E)).alloc (.cells #[.int .i64 (-1), .int .u64 0, .int .u64 0, .slice none 0 0] E)).alloc
    (.cells #[.int .i64 0, .int .u64 0, .int .u64 0, .slice none 0 0, .int .i64 8, .int .u64 0, .int .u64 0, .slice none 0 0, .int .i64 1, .int .u64 1, .int .u64 0, .slice none 0 0, .int .i64 2, .int .u64 0, .int .u64 1, .slice none 0 0, .int .i64 4, .int .u64 0, .int .u64 0, .slice none 0 0, .int .i64 4, .int .u64 2, .int .u64 2, .slice none 0 0,
      .int .i64 5, .int .u64 0, .int .u64 0, .slice none 0 0, .int .i64 3, .int .u64 0, .int .u64 0, .slice (some ⟨w.heap.size, 0, none⟩) 1 1, .int .i64 6, .int .u64 3, .int .u64 0, .slice none 0 0, .int .i64 5, .int .u64 0, .int .u64 0, .slice (some ⟨w.heap.size + 1, 0, none⟩) 2 2, .int .i64 6, .int .u64 0, .int .u64 0, .slice (some ⟨w.heap.size + 1 + 1, 0, none⟩) 1 1] E)
theorem odd_rows (w : World) (E : TypeId) : ∃ ps : List V, ps.length = 11 ∧ Lies (oddW w E) w.heap.size (oddW w E).heap.size (.node 0 0 0 (some ⟨w.heap.size + 1 + 1 + 1, 0, none⟩) 11 ps) ∧ Below w.heap.size w (oddW w E) := by
  have hsz : (oddW w E).heap.size = w.heap.size + 4 := by simp [oddW]
  have hB : Below w.heap.size w (oddW w E) := (((Below.refl _ w).alloc (Nat.le_refl _) _).alloc (by simp) _ |>.alloc (by simp; omega) _).alloc (by simp; omega) _
  have r0 : (oddW w E).heap[w.heap.size]? = some (.cells #[.int .i64 1, .int .u64 0, .int .u64 0, .slice none 0 0] E (0, 0)) := by
    unfold oddW
    rw [heap_alloc_old _ _ (by simp; omega), heap_alloc_old _ _ (by simp; omega), heap_alloc_old _ _ (by simp)]
    exact heap_alloc_new w _
  have r1 : (oddW w E).heap[w.heap.size + 1]? = some (.cells #[.int .i64 1, .int .u64 0, .int .u64 0, .slice none 0 0, .int .i64 1, .int .u64 0, .int .u64 0, .slice none 0 0] E (0, 0)) := by
    unfold oddW
    rw [heap_alloc_old _ _ (by simp), heap_alloc_old _ _ (by simp)]
    have := heap_alloc_new (w.alloc (.cells #[.int .i64 1, .int .u64 0, .int .u64 0, .slice none 0 0] E)) (.cells #[.int .i64 1, .int .u64 0, .int .u64 0, .slice none 0 0, .int .i64 1, .int .u64 0, .int .u64 0, .slice none 0 0] E)
    simpa using this
  have r2 : (oddW w E).heap[w.heap.size + 1 + 1]? = some (.cells #[.int .i64 (-1), .int .u64 0, .int .u64 0, .slice none 0 0] E (0, 0)) := by
    unfold oddW
    rw [heap_alloc_old _ _ (by simp)]
    have := heap_alloc_new ((w.alloc (.cells #[.int .i64 1, .int .u64 0, .int .u64 0, .slice none 0 0] E)).alloc (.cells #[.int .i64 1, .int .u64 0, .int .u64 0, .slice none 0 0, .int .i64 1, .int .u64 0, .int .u64 0, .slice none 0 0] E)) (.cells #[.int .i64 (-1), .int .u64 0, .int .u64 0, .slice none 0 0] E)
    simpa using this
  have r3 := heap_alloc_new (((w.alloc (.cells #[.int .i64 1, .int .u64 0, .int .u64 0, .slice none 0 0] E)).alloc (.cells #[.int .i64 1, .int .u64 0, .int .u64 0, .slice none 0 0, .int .i64 1, .int .u64 0, .int .u64 0, .slice none 0 0] E)).alloc (.cells #[.int .i64 (-1), .int .u64 0, .int .u64 0, .slice none 0 0] E))
    (.cells #[.int .i64 0, .int .u64 0, .int .u64 0, .slice none 0 0, .int .i64 8, .int .u64 0, .int .u64 0, .slice none 0 0, .int .i64 1, .int .u64 1, .int .u64 0, .slice none 0 0, .int .i64 2, .int .u64 0, .int .u64 1, .slice none 0 0, .int .i64 4, .int .u64 0, .int .u64 0, .slice none 0 0, .int .i64 4, .int .u64 2, .int .u64 2, .slice none 0 0,
      .int .i64 5, .int .u64 0, .int .u64 0, .slice none 0 0, .int .i64 3, .int .u64 0, .int .u64 0, .slice (some ⟨w.heap.size, 0, none⟩) 1 1, .int .i64 6, .int .u64 3, .int .u64 0, .slice none 0 0, .int .i64 5, .int .u64 0, .int .u64 0, .slice (some ⟨w.heap.size + 1, 0, none⟩) 2 2, .int .i64 6, .int .u64 0, .int .u64 0, .slice (some ⟨w.heap.size + 1 + 1, 0, none⟩) 1 1] E)
  rw [show (((w.alloc (.cells #[.int .i64 1, .int .u64 0, .int .u64 0, .slice none 0 0] E)).alloc (.cells #[.int .i64 1, .int .u64 0, .int .u64 0, .slice none 0 0, .int .i64 1, .int .u64 0, .int .u64 0, .slice none 0 0] E)).alloc (.cells #[.int .i64 (-1), .int .u64 0, .int .u64 0, .slice none 0 0] E)).heap.size = w.heap.size + 1 + 1 + 1 by simp] at r3
  have leaf : ∀ (k : Int) (a b : Nat), -10 ≤ k ∧ k ≤ 10 → a < 100 → b < 100 → Lies (oddW w E) w.heap.size (oddW w E).heap.size (.node k a b none 0 []) := fun k a b hk ha hb => leafZ_lies _ _ _ _ _ _ (by omega) (by omega) (by omega)
  have l1 : ∀ p ∈ [V.node 1 0 0 none 0 []], Lies (oddW w E) w.heap.size (oddW w E).heap.size p := fun p hp => by
    obtain rfl : p = V.node 1 0 0 none 0 [] := by simpa using hp
    exact leaf _ _ _ (by omega) (by omega) (by omega)
  have l2 : ∀ p ∈ [V.node 1 0 0 none 0 [], V.node 1 0 0 none 0 []], Lies (oddW w E) w.heap.size (oddW w E).heap.size p := fun p hp => by
    obtain rfl : p = V.node 1 0 0 none 0 [] := by simpa using hp
    exact leaf _ _ _ (by omega) (by omega) (by omega)
  have l3 : ∀ p ∈ [V.node (-1) 0 0 none 0 []], Lies (oddW w E) w.heap.size (oddW w E).heap.size p := fun p hp => by
    obtain rfl : p = V.node (-1) 0 0 none 0 [] := by simpa using hp
    exact leaf _ _ _ (by omega) (by omega) (by omega)
  refine ⟨[.node 0 0 0 none 0 [], .node 8 0 0 none 0 [], .node 1 1 0 none 0 [], .node 2 0 1 none 0 [], .node 4 0 0 none 0 [], .node 4 2 2 none 0 [], .node 5 0 0 none 0 [], .node 3 0 0 (some ⟨w.heap.size, 0, none⟩) 1 [.node 1 0 0 none 0 []], .node 6 3 0 none 0 [],
    .node 5 0 0 (some ⟨w.heap.size + 1, 0, none⟩) 2 [.node 1 0 0 none 0 [], .node 1 0 0 none 0 []], .node 6 0 0 (some ⟨w.heap.size + 1 + 1, 0, none⟩) 1 [.node (-1) 0 0 none 0 []]], rfl, node_lies r3 rfl (by omega) (by omega) ?_ 0 0 0 11 rfl (by omega) (by omega) (by omega) (by omega), hB⟩
  intro p hp
  simp only [List.mem_cons, List.not_mem_nil, or_false] at hp
  rcases hp with rfl | rfl | rfl | rfl | rfl | rfl | rfl | rfl | rfl | rfl | rfl
  · exact leaf _ _ _ (by omega) (by omega) (by omega)
  · exact leaf _ _ _ (by omega) (by omega) (by omega)
  · exact leaf _ _ _ (by omega) (by omega) (by omega)
  · exact leaf _ _ _ (by omega) (by omega) (by omega)
  · exact leaf _ _ _ (by omega) (by omega) (by omega)
  · exact leaf _ _ _ (by omega) (by omega) (by omega)
  · exact leaf _ _ _ (by omega) (by omega) (by omega)
  · exact node_lies r0 rfl (by omega) (by omega) l1 _ _ _ _ rfl (by omega) (by omega) (by omega) (by omega)
  · exact leaf _ _ _ (by omega) (by omega) (by omega)
  · exact node_lies r1 rfl (by omega) (by omega) l2 _ _ _ _ rfl (by omega) (by omega) (by omega) (by omega)
  · exact node_lies r2 rfl (by omega) (by omega) l3 _ _ _ _ rfl (by omega) (by omega) (by omega) (by omega)

/-! ### The other statements, for whatever lies -/
def TrueEnd (w : World) (e : Ending) (w' : World) : Prop := e = .returned (.bool true) ∧ Below w.heap.size w w'
theorem tells_all {w0 w : World} (hE : Env w0.heap.size w0) (hb : Below w0.heap.size w0 w) (p q : V) (x y : Nat) (hx : x < 18446744073709551616) (hy : y < 18446744073709551616) {l1 h1 l2 h2 : Nat} (hp : Lies w l1 h1 p) (k1 : h1 ≤ w.heap.size) (hq : Lies w l2 h2 q) (k2 : h2 ≤ w.heap.size) :
    Calls Tryz.prog 3 #[.agg #[.int .i64 p.kind, .int .u64 (p.a : Int), .int .u64 (p.b : Int), .slice p.addr p.parts.length p.cap], .agg #[.int .i64 q.kind, .int .u64 (q.a : Int), .int .u64 (q.b : Int), .slice q.addr q.parts.length q.cap], .int .u64 (x : Int), .int .u64 (y : Int)] w (TrueEnd w) :=
  predtells_any p q x y hx hy w (hp.more (Nat.zero_le _) k1) (hq.more (Nat.zero_le _) k2) (fun w' h => (hE.under hb (Nat.le_refl _)) w' fun g hg => h g (by have := hb.size; omega))
theorem back_all {w0 w : World} (hE : Env w0.heap.size w0) (hb : Below w0.heap.size w0 w) (p q : V) (lb : List Nat) (hlb8 : ∀ x ∈ lb, x < 256) (A : Option Addr) (n c : Nat) (hnc : n ≤ c ∧ c ≤ 9223372036854775807) (hr : Rd w w.heap.size 1 A n (bs lb)) (x y : Nat) (hx : x < 18446744073709551616) (hy : y < 18446744073709551616)
    {l1 h1 l2 h2 : Nat} (hp : Lies w l1 h1 p) (k1 : h1 ≤ w.heap.size) (hq : Lies w l2 h2 q) (k2 : h2 ≤ w.heap.size) :
    Calls Tryz.prog 6 #[.agg #[.int .i64 p.kind, .int .u64 (p.a : Int), .int .u64 (p.b : Int), .slice p.addr p.parts.length p.cap], .agg #[.int .i64 q.kind, .int .u64 (q.a : Int), .int .u64 (q.b : Int), .slice q.addr q.parts.length q.cap], .slice A n c, .int .u64 (x : Int), .int .u64 (y : Int)] w (TrueEnd w) :=
  predback_any p q lb hlb8 A n c hnc x y hx hy w (hp.more (Nat.zero_le _) k1) (hq.more (Nat.zero_le _) k2) hr (fun w' h => (hE.under hb (Nat.le_refl _)) w' fun g hg => h g (by have := hb.size; omega))
    (fun l A n c h1 h2 => tnode_any A n c l h1 h2 8 (Nat.le_refl _)) (fun l A n c s B W h1 h2 h3 => pTakeO_any A n c h1 s B W h2 h3)
theorem takes_all {w0 w : World} (hE : Env w0.heap.size w0) (hb : Below w0.heap.size w0 w) (lb : List Nat) (hb8 : ∀ x ∈ lb, x < 256) (A : Option Addr) (n c : Nat) (hnc : n ≤ c ∧ c ≤ 9223372036854775807) (pl : Int) (hr : Rd w w.heap.size 1 A n (bs lb)) :
    Calls Tryz.prog 4 #[.slice A n c, .int .i64 pl] w (TrueEnd w) :=
  predtakes_any lb hb8 A n c hnc pl w hr (fun w' h => (hE.under hb (Nat.le_refl _)) w' fun g hg => h g (by have := hb.size; omega)) (fun _ => tnode_any A n c lb hb8 hnc 8 (Nat.le_refl _)) (fun s B W h1 h2 h3 => pTakeO_any A n c h1 s B W h2 h3)
theorem reads_all {w0 w : World} (hE : Env w0.heap.size w0) (hb : Below w0.heap.size w0 w) (s : ByteArray) :
    Calls Tryz.prog 5 #[.string s] w (TrueEnd w) := by
  have := predreads_any s.data.toList w (fun w' h => (hE.under hb (Nat.le_refl _)) w' fun g hg => h g (by have := hb.size; omega))
  have e : (⟨s.data.toList.toArray⟩ : ByteArray) = s := by cases s; simp
  rw [e] at this
  exact this
/-- made, its answer as a tree. -/
theorem made_tree (d n : Nat) (hd : d ≤ 3) (hn : n < 1000000) (w : World) : Calls Tryz.prog 39 #[.int .i64 (n : Int), .int .i64 (d : Int)] w fun e w' => ∃ u : V, e = .returned (.agg #[.int .i64 u.kind, .int .u64 (u.a : Int), .int .u64 (u.b : Int), .slice u.addr u.parts.length u.cap]) ∧ u.abs.count ≤ 40 ∧ Lies w' w.heap.size w'.heap.size u ∧ Below w.heap.size w w' := by
  refine (made_any d hd n w hn).mono ?_
  rintro e w' ⟨k, a, b, A, c, us, he, h1, h2, -, h4⟩
  refine ⟨.node k a b A c us, he, Nat.le_trans h1 ?_, h2, h4⟩
  have : d = 0 ∨ d = 1 ∨ d = 2 ∨ d = 3 := by omega
  rcases this with rfl | rfl | rfl | rfl <;> decide

end Go.Proofs.YtiijdacnfhiagaaGreatDoor
