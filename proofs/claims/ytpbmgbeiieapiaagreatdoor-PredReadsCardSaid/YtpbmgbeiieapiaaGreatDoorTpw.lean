/-
  Layer 4: the law's walk: what the program reads is what the document reads.
-/
import Derived.Test.YtpbmgbeiieapiaaGreatDoorTsa
import Derived.Test.YtpbmgbeiieapiaaGreatDoorTwo
namespace Go.Proofs.YtpbmgbeiieapiaaGreatDoor
open Go Go.RowKit
set_option linter.unusedVariables false

theorem readT_count (s : List UInt8) : (ansT (readT s)).1.count ≤ s.length + 1 := by
  unfold readT
  have key : ∀ o : Option (T × List UInt8), o = rdS 8 s → (ansT (match o with | some (t, []) => if t.rightB then some t else none | _ => none)).1.count ≤ s.length + 1 := by
    intro o ho
    rcases o with _ | ⟨t, _ | ⟨x, r⟩⟩
    · simp [ansT, T.count, T.countL]
    · have := rdS_count 8 s t [] ho.symm
      dsimp only
      split
      · simp only [ansT]; simp at this; omega
      · simp [ansT, T.count, T.countL]
    · simp [ansT, T.count, T.countL]
  exact key _ rfl

set_option maxRecDepth 100000 in
set_option maxHeartbeats 3200000 in
theorem predreads_any (s : List UInt8) (w : World) (hE : Env w.heap.size w) :
    Calls Tryz.prog 5 #[.string ⟨s.toArray⟩] w fun e w' => e = .returned (.bool true) ∧ Below w.heap.size w w' := by
  have hsz : (ByteArray.mk s.toArray).size = s.length := rfl
  have WK : Hid (∀ W, Below w.heap.size w W → Calls Tryz.prog 9 #[] W fun e w' => e = .returned (.bool true) ∧ Below W.heap.size W w') := fun W h =>
    works4_any w.heap.size W (hE.under h (Nat.le_refl _)) h.size
  by_cases h300 : s.length ≤ 300
  · have hlen : decide (((ByteArray.mk s.toArray).size : Int) > 300) = false := by rw [hsz]; exact decide_eq_false (by omega)
    have RD := ans_open (t := (ansT (readT s)).1) (z := (ansT (readT s)).2) (pread_any s w.heap.size w hE (Nat.le_refl _) (by omega))
    have RR : Hid (∀ W, Calls Tryz.prog 38 #[.string ⟨s.toArray⟩] W fun e w' => ∃ u : V, e = .returned (.tuple #[.agg #[.int .i64 u.kind, .int .u64 (u.a : Int), .int .u64 (u.b : Int), .slice u.addr u.parts.length u.cap], .int .i64 ((ansT (readT s)).2 : Int)]) ∧ u.abs = (ansT (readT s)).1 ∧ Lies w' W.heap.size w'.heap.size u ∧ Shp 30 w' W.heap.size u ∧ Below W.heap.size W w') := fun W => ans_open (rRead_any s W (by omega))
    have hct := readT_count s
    generalize (ansT (readT s)).1 = t at *
    generalize ((ansT (readT s)).2 : Int) = z at *
    clear hE
    go_enter Tryz.func5, Tryz.ntmps5
    go_wp2_with fail
    refine RD.mono ?_
    rintro e w1 ⟨u, rfl, hu, hL, hS, hb1⟩
    have s1 := hb1.size
    have bx := below_new w1 (.cells #[.int .i64 u.kind, .int .u64 (u.a : Int), .int .u64 (u.b : Int), .slice u.addr u.parts.length u.cap] 25)
    have rx := heap_alloc_new w1 (.cells #[.int .i64 u.kind, .int .u64 (u.a : Int), .int .u64 (u.b : Int), .slice u.addr u.parts.length u.cap] 25)
    have sx : (w1.alloc (.cells #[.int .i64 u.kind, .int .u64 (u.a : Int), .int .u64 (u.b : Int), .slice u.addr u.parts.length u.cap] 25)).heap.size = w1.heap.size + 1 := by simp
    clear RD
    go_upto_region 4 with (fail)
    generalize w1.alloc (.cells #[.int .i64 u.kind, .int .u64 (u.a : Int), .int .u64 (u.b : Int), .slice u.addr u.parts.length u.cap] 25) = w2 at *
    go_wp2_with fail
    refine (RR.out w2).mono ?_
    rintro e w3 ⟨r, rfl, hr, hM, -, hb3⟩
    have s3 := hb3.size
    have by' := below_new w3 (.cells #[.int .i64 r.kind, .int .u64 (r.a : Int), .int .u64 (r.b : Int), .slice r.addr r.parts.length r.cap] 30)
    have ry := heap_alloc_new w3 (.cells #[.int .i64 r.kind, .int .u64 (r.a : Int), .int .u64 (r.b : Int), .slice r.addr r.parts.length r.cap] 30)
    have sy : (w3.alloc (.cells #[.int .i64 r.kind, .int .u64 (r.a : Int), .int .u64 (r.b : Int), .slice r.addr r.parts.length r.cap] 30)).heap.size = w3.heap.size + 1 := by simp
    go_upto_region 5 with (fail)
    generalize w3.alloc (.cells #[.int .i64 r.kind, .int .u64 (r.a : Int), .int .u64 (r.b : Int), .slice r.addr r.parts.length r.cap] 30) = w4 at *
    have b24 := hb3.trans (by'.mono s3)
    have hx := (b24.block w1.heap.size (by omega)).trans rx
    have bw4 := (hb1.trans (bx.mono s1)).trans (b24.mono (by omega))
    have SM : Calls Tryz.prog 36 #[.agg #[.int .i64 u.kind, .int .u64 (u.a : Int), .int .u64 (u.b : Int), .slice u.addr u.parts.length u.cap], .int .i64 0, .int .i64 z, .agg #[.int .i64 r.kind, .int .u64 (r.a : Int), .int .u64 (r.b : Int), .slice r.addr r.parts.length r.cap], .int .i64 0, .int .i64 z] w4 fun e w' => e = .returned (.bool true) ∧ Below w.heap.size w4 w' := same4_any u r 0 z w.heap.size w1.heap.size w2.heap.size w3.heap.size w4 ((hL.under bx).under (b24.mono (by omega))) (((hS.under (bx.mono (by omega))).under (b24.mono (Nat.le_refl _)))) (by omega) (by omega) (hM.under by') (by omega) (hu.trans hr.symm) (by rw [hu]; omega)
    have cx0 := (cell_of_row w4 _ 0 _ _ _ hx).trans rfl
    have cx1 := (cell_of_row w4 _ 1 _ _ _ hx).trans rfl
    have cx2 := (cell_of_row w4 _ 2 _ _ _ hx).trans rfl
    have cx3 := (cell_of_row w4 _ 3 _ _ _ hx).trans rfl
    have cy0 := (cell_of_row w4 _ 0 _ _ _ ry).trans rfl
    have cy1 := (cell_of_row w4 _ 1 _ _ _ ry).trans rfl
    have cy2 := (cell_of_row w4 _ 2 _ _ _ ry).trans rfl
    have cy3 := (cell_of_row w4 _ 3 _ _ _ ry).trans rfl
    clear hx ry rx bx by' hL hS hM hu hr hb1 hb3 b24 RR
    generalize u.addr = uA at *
    generalize u.cap = uc at *
    generalize u.parts.length = un at *
    generalize u.kind = uk at *
    generalize (u.a : Int) = ua at *
    generalize (u.b : Int) = ub at *
    generalize r.addr = rA at *
    generalize r.cap = rc at *
    generalize r.parts.length = rn at *
    generalize r.kind = rk at *
    generalize (r.a : Int) = ra at *
    generalize (r.b : Int) = rb at *
    go_wp2_with fail
    refine SM.mono ?_
    rintro e w5 ⟨rfl, hb5⟩
    have bw5 := bw4.trans hb5
    have W1 := WK.out w5 bw5
    clear SM WK
    go_wp2_with fail
    refine W1.mono ?_
    rintro e w6 ⟨rfl, hb6⟩
    have bw6 := bw5.trans (hb6.mono bw5.size)
    go_wp2_with fail
    go_ret
    exact ⟨rfl, bw6⟩
  · have hlen : decide (((ByteArray.mk s.toArray).size : Int) > 300) = true := by rw [hsz]; exact decide_eq_true (by omega)
    have W1 := WK.out w (Below.refl _ _)
    clear hE WK
    go_enter Tryz.func5, Tryz.ntmps5
    go_wp2_with fail
    refine W1.mono ?_
    rintro e w6 ⟨rfl, hb6⟩
    go_wp2_with fail
    go_ret
    exact ⟨rfl, hb6⟩

end Go.Proofs.YtpbmgbeiieapiaaGreatDoor
