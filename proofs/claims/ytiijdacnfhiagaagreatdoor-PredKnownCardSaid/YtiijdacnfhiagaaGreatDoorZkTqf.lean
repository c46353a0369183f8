/-
  Layer 4: the statements' same, where both are the same; what it writes over.
  Layer 4: the law's walk: what the program takes and parses is what the document does.
-/
import Derived.Test.YtiijdacnfhiagaaGreatDoorZkTwo
import Derived.Test.YtiijdacnfhiagaaGreatDoorZkTqp
import Derived.Test.YtiijdacnfhiagaaGreatDoorTex
import Derived.Test.YtiijdacnfhiagaaGreatDoorZkTqo
import Derived.Test.YtiijdacnfhiagaaGreatDoorHlp
import Derived.Test.YtiijdacnfhiagaaGreatDoorTtn

namespace Go.Proofs.YtiijdacnfhiagaaGreatDoor
open Go Go.RowKit
set_option linter.unusedVariables false

set_option maxRecDepth 100000 in
set_option maxHeartbeats 3200000 in
theorem same5_any (u r : V) (n z : Int) (w0 : World) (lo hi lo2 hi2 : Nat) (w : World) (hu : Lies w lo hi u) (hS0 : Shp 25 w0 lo u) (hw0 : w0.heap.size ≤ w.heap.size) (hS : Shp 25 w lo u) (hhi : hi ≤ w.heap.size) (hlo : lo ≤ w.heap.size) (hr : Lies w lo2 hi2 r) (hhi2 : hi2 ≤ w.heap.size) (he : u.abs = r.abs) (hct : u.abs.count ≤ 1000) :
    Calls Tryz.prog 36 #[u.val, .int .i64 n, .int .i64 z, r.val, .int .i64 n, .int .i64 z] w fun e w' => e = .returned (.bool true) ∧ Below lo w w' ∧ ∀ k, k < w.heap.size → (k < lo ∨ w0.heap.size ≤ k) → w'.heap[k]? = w.heap[k]? := by
  have b1 := below_new w (.cells #[.int .i64 u.kind, .int .u64 (u.a : Int), .int .u64 (u.b : Int), .slice u.addr u.parts.length u.cap] 25)
  have r1 := heap_alloc_new w (.cells #[.int .i64 u.kind, .int .u64 (u.a : Int), .int .u64 (u.b : Int), .slice u.addr u.parts.length u.cap] 25)
  obtain ⟨w1, hw1⟩ : ∃ w1, w1 = w.alloc (.cells #[.int .i64 u.kind, .int .u64 (u.a : Int), .int .u64 (u.b : Int), .slice u.addr u.parts.length u.cap] 25) := ⟨_, rfl⟩
  have s1 : w1.heap.size = w.heap.size + 1 := by rw [hw1]; simp
  rw [← hw1] at b1 r1
  have b2 := below_new w1 (.cells #[.int .i64 r.kind, .int .u64 (r.a : Int), .int .u64 (r.b : Int), .slice r.addr r.parts.length r.cap] 30)
  have r2 := heap_alloc_new w1 (.cells #[.int .i64 r.kind, .int .u64 (r.a : Int), .int .u64 (r.b : Int), .slice r.addr r.parts.length r.cap] 30)
  obtain ⟨w2, hw2⟩ : ∃ w2, w2 = w1.alloc (.cells #[.int .i64 r.kind, .int .u64 (r.a : Int), .int .u64 (r.b : Int), .slice r.addr r.parts.length r.cap] 30) := ⟨_, rfl⟩
  have s2 : w2.heap.size = w.heap.size + 2 := by rw [hw2]; simp [s1]
  rw [← hw2, s1] at b2 r2
  have r12 := (b2.block w.heap.size (by omega)).trans r1
  have bw := b1.trans (b2.mono (by omega))
  have DE : Hid (∀ W, Below w2.heap.size w2 W → Calls Tryz.prog 10 #[.agg #[.int .i64 u.kind, .int .u64 (u.a : Int), .int .u64 (u.b : Int), .slice u.addr u.parts.length u.cap]] W fun e w' => ∃ x : V, e = .returned (.agg #[.int .i64 x.kind, .int .u64 (x.a : Int), .int .u64 (x.b : Int), .slice x.addr x.parts.length x.cap]) ∧ x.abs = u.abs ∧ Lies w' W.heap.size w'.heap.size x ∧ Shp 30 w' W.heap.size x ∧ Below W.heap.size W w') := fun W hW =>
    dexpr_any u W lo hi ((hu.under (bw.mono hhi)).under (hW.mono (by omega))) (by have := hW.size; omega) hct
  have RS : Hid (∀ (W W' : World) (x : V), Below w2.heap.size w2 W → x.abs = u.abs → Lies W' W.heap.size W'.heap.size x → Below W.heap.size W W' → Calls Tryz.prog 16 #[.agg #[.int .i64 x.kind, .int .u64 (x.a : Int), .int .u64 (x.b : Int), .slice x.addr x.parts.length x.cap], .agg #[.int .i64 r.kind, .int .u64 (r.a : Int), .int .u64 (r.b : Int), .slice r.addr r.parts.length r.cap]] W' fun e w' => e = .returned (.bool true) ∧ Below W'.heap.size W' w') := fun W W' x hW hx hL hb => by
    have hW' := hW.trans (hb.mono hW.size)
    have := rsame_any x r W' _ _ lo2 hi2 hL (Nat.le_refl _) ((hr.under (bw.mono hhi2)).under (hW'.mono (by omega))) (by have := hW'.size; omega)
    rw [hx, he, (sameB_iff _ _).2 rfl] at this
    exact this
  have SP : Hid (∀ W, Below w2.heap.size w2 W → Calls Tryz.prog 19 #[.agg #[.int .i64 u.kind, .int .u64 (u.a : Int), .int .u64 (u.b : Int), .slice u.addr u.parts.length u.cap]] W fun e w' => e = .returned (.tuple #[]) ∧ Below lo W w' ∧ ∀ k, k < W.heap.size → (k < lo ∨ w0.heap.size ≤ k) → w'.heap[k]? = W.heap[k]?) := fun W hW => by
    have hbw := bw.trans (hW.mono bw.size)
    exact (spoil_expr u w0 W lo u.kind u.a u.b hS0 ((hS.under bw).under (hW.mono (Nat.le_refl _))) (by have := hbw.size; omega) (by have := hbw.size; omega) hct).mono fun e w' h => ⟨h.1, h.2.below, h.2.keep⟩
  have HC : Hid (∀ W, Below w2.heap.size w2 W → (W.cell? ⟨w.heap.size, 0, none⟩ = some (.int .i64 u.kind) ∧ W.cell? ⟨w.heap.size, 1, none⟩ = some (.int .u64 (u.a : Int)) ∧ W.cell? ⟨w.heap.size, 2, none⟩ = some (.int .u64 (u.b : Int)) ∧ W.cell? ⟨w.heap.size, 3, none⟩ = some (.slice u.addr u.parts.length u.cap)) ∧
      W.cell? ⟨w.heap.size + 1, 0, none⟩ = some (.int .i64 r.kind) ∧ W.cell? ⟨w.heap.size + 1, 1, none⟩ = some (.int .u64 (r.a : Int)) ∧ W.cell? ⟨w.heap.size + 1, 2, none⟩ = some (.int .u64 (r.b : Int)) ∧ W.cell? ⟨w.heap.size + 1, 3, none⟩ = some (.slice r.addr r.parts.length r.cap)) := fun W hW => by
    have hx := (hW.block w.heap.size (by omega)).trans r12
    have hy := (hW.block (w.heap.size + 1) (by omega)).trans r2
    exact ⟨⟨(cell_of_row W _ 0 _ _ _ hx).trans rfl, (cell_of_row W _ 1 _ _ _ hx).trans rfl, (cell_of_row W _ 2 _ _ _ hx).trans rfl, (cell_of_row W _ 3 _ _ _ hx).trans rfl⟩, (cell_of_row W _ 0 _ _ _ hy).trans rfl, (cell_of_row W _ 1 _ _ _ hy).trans rfl, (cell_of_row W _ 2 _ _ _ hy).trans rfl, (cell_of_row W _ 3 _ _ _ hy).trans rfl⟩
  have HBW := Lib_hid bw
  have hnn : (n == n) = true := by simp
  have hzz : (z == z) = true := by simp
  subst hw2 hw1
  clear hu hS hS0 hr r1 r2 r12 b1 b2 s1 s2 bw he hct
  show Calls _ _ #[.agg #[.int .i64 u.kind, .int .u64 (u.a : Int), .int .u64 (u.b : Int), .slice u.addr u.parts.length u.cap], .int .i64 n, .int .i64 z, .agg #[.int .i64 r.kind, .int .u64 (r.a : Int), .int .u64 (r.b : Int), .slice r.addr r.parts.length r.cap], .int .i64 n, .int .i64 z] w _
  go_enter Tryz.func36, Tryz.ntmps36
  go_upto_region 1 with (fail)
  generalize (w.alloc _).alloc (.cells #[.int .i64 r.kind, .int .u64 (r.a : Int), .int .u64 (r.b : Int), .slice r.addr r.parts.length r.cap] 30) = w2 at *
  generalize u.addr = uA at *
  generalize u.cap = uc at *
  generalize u.parts.length = un at *
  generalize u.kind = uk at *
  generalize (u.a : Int) = ua at *
  generalize (u.b : Int) = ub at *
  generalize r.addr = rA at *
  generalize r.cap = rc at *
  generalize r.parts.length = rn at *
  generalize r.kind = rk at *
  generalize (r.a : Int) = ra at *
  generalize (r.b : Int) = rb at *
  go_region_held3 (fun W => (W.cell? ⟨w.heap.size, 0, none⟩ = some (.int .i64 uk) ∧ W.cell? ⟨w.heap.size, 1, none⟩ = some (.int .u64 ua) ∧ W.cell? ⟨w.heap.size, 2, none⟩ = some (.int .u64 ub) ∧ W.cell? ⟨w.heap.size, 3, none⟩ = some (.slice uA un uc)) ∧
      W.cell? ⟨w.heap.size + 1, 0, none⟩ = some (.int .i64 rk) ∧ W.cell? ⟨w.heap.size + 1, 1, none⟩ = some (.int .u64 ra) ∧ W.cell? ⟨w.heap.size + 1, 2, none⟩ = some (.int .u64 rb) ∧ W.cell? ⟨w.heap.size + 1, 3, none⟩ = some (.slice rA rn rc))
    (first | exact HC.out _ (below_like4 (Below.refl _ _) rfl rfl rfl rfl) | exact HC.out _ hbx | exact HC.out _ hby)
    ((first
      | (go_at_call 10; refine (DE.out _ (by exact below_like4 (Below.refl _ _) rfl rfl rfl rfl)).mono ?_; rintro e wx ⟨x, rfl, hxa, hxL, -, hxb⟩; have hbx : Below w2.heap.size w2 wx := ⟨hxb.os, hxb.tape, hxb.output, hxb.size, hxb.block⟩)
      | (go_at_call 16; refine (RS.out w2 wx x (Below.refl _ _) hxa hxL hbx).mono ?_; rintro e wy ⟨rfl, hyb⟩; have hby := hbx.trans (hyb.mono hbx.size))))
  all_goals
    obtain ⟨⟨d0, d1, d2, d3⟩, -⟩ := HC.out wy hby
    have S1 := SP.out wy hby
    go_wp2_with fail
    refine S1.mono ?_
    rintro e wz ⟨rfl, hz, hzk⟩
    have HF : Hid (Below lo w wz ∧ ∀ k, k < w.heap.size → (k < lo ∨ w0.heap.size ≤ k) → wz.heap[k]? = w.heap[k]?) := by
      have h1 := HBW.out.size
      have h2 := hby.size
      exact ⟨(HBW.out.mono hlo).trans ((hby.mono (by omega)).trans hz), fun k hk ho => (hzk k (by omega) ho).trans ((hby.block k (by omega)).trans (HBW.out.block k hk))⟩
    clear hzk hz
    clear S1 d0 d1 d2 d3
    go_wp2_with fail
    go_ret
    exact ⟨rfl, HF.out⟩

end Go.Proofs.YtiijdacnfhiagaaGreatDoor

namespace Go.Proofs.YtiijdacnfhiagaaGreatDoor
open Go Go.RowKit
set_option linter.unusedVariables false

theorem takeT_count (l : List Nat) (s : Int) : (ansK (takeT l s)).1.count ≤ 32 := by
  cases h : takeT l s with
  | none => simp [ansK, T.count, T.countL]
  | some x =>
    obtain ⟨t, r⟩ := x
    unfold takeT at h
    obtain ⟨x, hx, he⟩ := Option.bind_eq_some_iff.1 h
    split at he
    · rename_i hr
      injection he with he
      rw [he] at hr
      exact (right_all hr).2
    · cases he
theorem parseT_count (l : List Nat) : (ansT (parseT l)).1.count ≤ 32 := by
  unfold parseT
  have h := takeT_count l 0
  cases hk : takeT l 0 with
  | none => simp [ansT, T.count, T.countL]
  | some x =>
    obtain ⟨t, r⟩ := x
    rw [hk] at h
    rw [Option.bind_some]
    split
    · exact h
    · simp [ansT, T.count, T.countL]
theorem tk_open {f : FuncId} {args : Array Value} {w : World} {E : TypeId} {t : T} {r z : Nat} (h : Calls Tryz.prog f args w (TkEnd E (t, r, z) w)) :
    Calls Tryz.prog f args w fun e w' => ∃ u : V, e = .returned (.tuple #[.agg #[.int .i64 u.kind, .int .u64 (u.a : Int), .int .u64 (u.b : Int), .slice u.addr u.parts.length u.cap], .int .i64 (r : Int), .int .i64 (z : Int)]) ∧ u.abs = t ∧ Lies w' w.heap.size w'.heap.size u ∧ Shp E w' w.heap.size u ∧ Below w.heap.size w w' := h

set_option maxRecDepth 100000 in
set_option maxHeartbeats 6400000 in
theorem predtakes_any (l : List Nat) (hb8 : ∀ x ∈ l, x < 256) (Ab : Option Addr) (nb cb : Nat) (hnc : nb ≤ cb ∧ cb ≤ 9223372036854775807) (pl : Int) (w : World) (hrd : Rd w w.heap.size 1 Ab nb (bs l)) (hE : Env w.heap.size w) (OK : nb ≤ 300 → TakeOK Ab nb cb l 8)
    (TA : ∀ (s : Int) (B : Nat) (W : World), TakeOK Ab nb cb l 8 → Rd W B 1 Ab nb (bs l) → B ≤ W.heap.size → Calls Tryz.prog 32 #[.slice Ab nb cb, .int .i64 s] W (TkEnd 25 (ansK (takeT l s)) W)) :
    Calls Tryz.prog 4 #[.slice Ab nb cb, .int .i64 pl] w fun e w' => e = .returned (.bool true) ∧ Below w.heap.size w w' := by
  have hln : l.length = nb := hrd.count
  have WK : Hid (∀ W, Below w.heap.size w W → Calls Tryz.prog 9 #[] W fun e w' => e = .returned (.bool true) ∧ Below W.heap.size W w') := fun W h =>
    works4_any w.heap.size W (hE.under h (Nat.le_refl _)) h.size
  by_cases h300 : nb ≤ 300
  · have hlen : decide ((nb : Int) > 300) = false := decide_eq_false (by omega)
    have hlen2 : ¬ (300 : Int) < (nb : Int) := by omega
    have hlen3 : ¬ 300 < nb := by omega
    have OW := own_any w.heap.size Ab nb cb l w hrd (by omega)
    have OK := OK h300
    have PT : Hid (∀ W, Below w.heap.size w W → Calls Tryz.prog 32 #[.slice Ab nb cb, .int .i64 pl] W fun e w' => ∃ u : V, e = .returned (.tuple #[.agg #[.int .i64 u.kind, .int .u64 (u.a : Int), .int .u64 (u.b : Int), .slice u.addr u.parts.length u.cap], .int .i64 ((ansK (takeT l pl)).2.1 : Int), .int .i64 ((ansK (takeT l pl)).2.2 : Int)]) ∧ u.abs = (ansK (takeT l pl)).1 ∧ Lies w' W.heap.size w'.heap.size u ∧ Shp 25 w' W.heap.size u ∧ Below W.heap.size W w') := fun W hW =>
      tk_open (t := (ansK (takeT l pl)).1) (r := (ansK (takeT l pl)).2.1) (z := (ansK (takeT l pl)).2.2) (TA pl w.heap.size W OK (hrd.below hW) hW.size)
    have PP : Hid (∀ W, Below w.heap.size w W → Calls Tryz.prog 34 #[.slice Ab nb cb] W fun e w' => ∃ u : V, e = .returned (.tuple #[.agg #[.int .i64 u.kind, .int .u64 (u.a : Int), .int .u64 (u.b : Int), .slice u.addr u.parts.length u.cap], .int .i64 ((ansT (parseT l)).2 : Int)]) ∧ u.abs = (ansT (parseT l)).1 ∧ Lies w' W.heap.size w'.heap.size u ∧ Shp 25 w' W.heap.size u ∧ Below W.heap.size W w') := fun W hW =>
      ans_open (t := (ansT (parseT l)).1) (z := (ansT (parseT l)).2) (pParse_any l Ab nb cb hln W fun W' hW' => TA 0 w.heap.size W' OK (hrd.below (hW.trans (hW'.mono hW.size))) (by have := hW.size; have := hW'.size; omega))
    have RT : Hid (∀ (A1 : Option Addr) (c1 B : Nat) (W : World), Rd W B 1 A1 nb (bs l) → B ≤ W.heap.size → Calls Tryz.prog 33 #[.slice A1 nb c1, .int .i64 pl] W fun e w' => ∃ u : V, e = .returned (.tuple #[.agg #[.int .i64 u.kind, .int .u64 (u.a : Int), .int .u64 (u.b : Int), .slice u.addr u.parts.length u.cap], .int .i64 ((ansK (takeT l pl)).2.1 : Int), .int .i64 ((ansK (takeT l pl)).2.2 : Int)]) ∧ u.abs = (ansK (takeT l pl)).1 ∧ Lies w' W.heap.size w'.heap.size u ∧ Shp 30 w' W.heap.size u ∧ Below W.heap.size W w') := fun A1 c1 B W h1 h2 =>
      tk_open (t := (ansK (takeT l pl)).1) (r := (ansK (takeT l pl)).2.1) (z := (ansK (takeT l pl)).2.2) (rTake_any hb8 A1 nb c1 (by omega) pl B W h1 h2)
    have RP : Hid (∀ (A1 : Option Addr) (c1 B : Nat) (W : World), Rd W B 1 A1 nb (bs l) → B ≤ W.heap.size → Calls Tryz.prog 35 #[.slice A1 nb c1] W fun e w' => ∃ u : V, e = .returned (.tuple #[.agg #[.int .i64 u.kind, .int .u64 (u.a : Int), .int .u64 (u.b : Int), .slice u.addr u.parts.length u.cap], .int .i64 ((ansT (parseT l)).2 : Int)]) ∧ u.abs = (ansT (parseT l)).1 ∧ Lies w' W.heap.size w'.heap.size u ∧ Shp 30 w' W.heap.size u ∧ Below W.heap.size W w') := fun A1 c1 B W h1 h2 =>
      ans_open (t := (ansT (parseT l)).1) (z := (ansT (parseT l)).2) (rParse_any l A1 nb c1 hln W fun W' hW' => rTake_any hb8 A1 nb c1 (by omega) 0 B W' (h1.below (hW'.mono h2)) (by have := hW'.size; omega))
    have hct1 := takeT_count l pl
    have hct2 := parseT_count l
    generalize (ansK (takeT l pl)).1 = t1 at *
    generalize ((ansK (takeT l pl)).2.1 : Int) = z1 at *
    generalize ((ansK (takeT l pl)).2.2 : Int) = z2 at *
    generalize (ansT (parseT l)).1 = t2 at *
    generalize ((ansT (parseT l)).2 : Int) = z3 at *
    have HRD := Lib_hid hrd
    clear hE OK TA hb8 hrd
    go_enter Tryz.func4, Tryz.ntmps4
    go_wp2_with fail
    refine OW.mono ?_
    rintro e w1 hMd
    obtain ⟨A1, n1, c1, rfl, ho1, hb1⟩ := made_iff.1 hMd
    obtain rfl : n1 = nb := by have := ho1.1; rw [bs_length] at this; omega
    have HR1 := Lib_hid (And.intro (Rd.own ho1) hb1)
    have s1 := hb1.size
    clear OW hMd ho1 hb1
    go_wp2
    go_loopw [6] (fun z W => ∃ t : Nat, z = .int .i64 t ∧ t ≤ 2 ∧ Hid (Below w1.heap.size w1 W)) (fun z _ => 2 - (intOf z).toNat)
    case atStart => exact ⟨0, rfl, by omega, Lib_hid (Below.refl _ _)⟩
    case round =>
      obtain ⟨t, rfl, ht, hbW⟩ := hrel
      rename World => W
      have hbwW : Hid (Below w.heap.size w W) := HR1.out.2.trans (hbW.out.mono s1)
      have hsW := hbW.out.size
      by_cases hlt : t < 2
      · have ht2 : (t : Int) < 2 := by omega
        have Cu := PT.out W hbwW.out
        go_wp2_with fail
        refine Cu.mono ?_
        rintro e W1 ⟨u, rfl, hu, hLu, hSu, hbW1⟩
        have sW1 := hbW1.size
        have bxW2 := below_new W1 (.cells #[.int .i64 u.kind, .int .u64 (u.a : Int), .int .u64 (u.b : Int), .slice u.addr u.parts.length u.cap] 25)
        have rxW2 := heap_alloc_new W1 (.cells #[.int .i64 u.kind, .int .u64 (u.a : Int), .int .u64 (u.b : Int), .slice u.addr u.parts.length u.cap] 25)
        have sxW2 : (W1.alloc (.cells #[.int .i64 u.kind, .int .u64 (u.a : Int), .int .u64 (u.b : Int), .slice u.addr u.parts.length u.cap] 25)).heap.size = W1.heap.size + 1 := by simp
        clear Cu
        go_upto_region 8 with (fail)
        generalize W1.alloc (.cells #[.int .i64 u.kind, .int .u64 (u.a : Int), .int .u64 (u.b : Int), .slice u.addr u.parts.length u.cap] 25) = W2 at *
        have hbWW2 := hbW1.trans (bxW2.mono sW1)
        have hW2 := hbwW.out.trans (hbWW2.mono hbwW.out.size)
        have hw12 := hbW.out.trans (hbWW2.mono hsW)
        have hz2 := hW2.size
        have hz12 := hw12.size
        have Cq := RT.out A1 c1 w1.heap.size W2 (HR1.out.1.below hw12) hz12
        go_wp2_with fail
        refine Cq.mono ?_
        rintro e W3 ⟨q, rfl, hq, hLq, hSq, hbW3⟩
        have sW3 := hbW3.size
        have bxW4 := below_new W3 (.cells #[.int .i64 q.kind, .int .u64 (q.a : Int), .int .u64 (q.b : Int), .slice q.addr q.parts.length q.cap] 30)
        have rxW4 := heap_alloc_new W3 (.cells #[.int .i64 q.kind, .int .u64 (q.a : Int), .int .u64 (q.b : Int), .slice q.addr q.parts.length q.cap] 30)
        have sxW4 : (W3.alloc (.cells #[.int .i64 q.kind, .int .u64 (q.a : Int), .int .u64 (q.b : Int), .slice q.addr q.parts.length q.cap] 30)).heap.size = W3.heap.size + 1 := by simp
        clear Cq
        go_upto_region 9 with (fail)
        generalize W3.alloc (.cells #[.int .i64 q.kind, .int .u64 (q.a : Int), .int .u64 (q.b : Int), .slice q.addr q.parts.length q.cap] 30) = W4 at *
        have hbW2W4 := hbW3.trans (bxW4.mono sW3)
        have hW4 := hW2.trans (hbW2W4.mono hz2)
        have hz4 := hW4.size
        have Cx := PP.out W4 hW4
        go_wp2_with fail
        refine Cx.mono ?_
        rintro e W5 ⟨x, rfl, hx, hLx, hSx, hbW5⟩
        have sW5 := hbW5.size
        have bxW6 := below_new W5 (.cells #[.int .i64 x.kind, .int .u64 (x.a : Int), .int .u64 (x.b : Int), .slice x.addr x.parts.length x.cap] 25)
        have rxW6 := heap_alloc_new W5 (.cells #[.int .i64 x.kind, .int .u64 (x.a : Int), .int .u64 (x.b : Int), .slice x.addr x.parts.length x.cap] 25)
        have sxW6 : (W5.alloc (.cells #[.int .i64 x.kind, .int .u64 (x.a : Int), .int .u64 (x.b : Int), .slice x.addr x.parts.length x.cap] 25)).heap.size = W5.heap.size + 1 := by simp
        clear Cx
        go_upto_region 10 with (fail)
        generalize W5.alloc (.cells #[.int .i64 x.kind, .int .u64 (x.a : Int), .int .u64 (x.b : Int), .slice x.addr x.parts.length x.cap] 25) = W6 at *
        have hbW4W6 := hbW5.trans (bxW6.mono sW5)
        have hW6 := hW4.trans (hbW4W6.mono hz4)
        have hz6 := hW6.size
        have hw16 := (hw12.trans (hbW2W4.mono hz12)).trans (hbW4W6.mono (by omega))
        have hz16 := hw16.size
        have Cy := RP.out A1 c1 w1.heap.size W6 (HR1.out.1.below hw16) hz16
        go_wp2_with fail
        refine Cy.mono ?_
        rintro e W7 ⟨y, rfl, hy, hLy, hSy, hbW7⟩
        have sW7 := hbW7.size
        have bxW8 := below_new W7 (.cells #[.int .i64 y.kind, .int .u64 (y.a : Int), .int .u64 (y.b : Int), .slice y.addr y.parts.length y.cap] 30)
        have rxW8 := heap_alloc_new W7 (.cells #[.int .i64 y.kind, .int .u64 (y.a : Int), .int .u64 (y.b : Int), .slice y.addr y.parts.length y.cap] 30)
        have sxW8 : (W7.alloc (.cells #[.int .i64 y.kind, .int .u64 (y.a : Int), .int .u64 (y.b : Int), .slice y.addr y.parts.length y.cap] 30)).heap.size = W7.heap.size + 1 := by simp
        clear Cy
        go_upto_region 11 with (fail)
        generalize W7.alloc (.cells #[.int .i64 y.kind, .int .u64 (y.a : Int), .int .u64 (y.b : Int), .slice y.addr y.parts.length y.cap] 30) = W8 at *
        have hbW6W8 := hbW7.trans (bxW8.mono sW7)
        have hW8 := hW6.trans (hbW6W8.mono hz6)
        have hz8 := hW8.size
        have b28 := (hbW2W4.trans (hbW4W6.mono (by omega))).trans (hbW6W8.mono (by omega))
        have b48 := hbW4W6.trans (hbW6W8.mono (by omega))
        have ru8 := (b28.block W1.heap.size (by omega)).trans rxW2
        have rq8 := (b48.block W3.heap.size (by omega)).trans rxW4
        have rx8 := (hbW6W8.block W5.heap.size (by omega)).trans rxW6
        have ry8 := rxW8
        have LU8 := (hLu.under bxW2).under (b28.mono (by omega))
        have SU8 := (hSu.under (bxW2.mono (Nat.le_refl _))).under (b28.mono (Nat.le_refl _))
        have LQ8 := (hLq.under bxW4).under (b48.mono (by omega))
        have LX8 := (hLx.under bxW6).under (hbW6W8.mono (by omega))
        have SX8 := (hSx.under (bxW6.mono (Nat.le_refl _))).under (hbW6W8.mono (Nat.le_refl _))
        have LY8 := hLy.under bxW8
        have SM1 : Calls Tryz.prog 36 #[.agg #[.int .i64 u.kind, .int .u64 (u.a : Int), .int .u64 (u.b : Int), .slice u.addr u.parts.length u.cap], .int .i64 z1, .int .i64 z2, .agg #[.int .i64 q.kind, .int .u64 (q.a : Int), .int .u64 (q.b : Int), .slice q.addr q.parts.length q.cap], .int .i64 z1, .int .i64 z2] W8 fun e w' => e = .returned (.bool true) ∧ Below W.heap.size W8 w' ∧ ∀ k, k < W8.heap.size → (k < W.heap.size ∨ W1.heap.size ≤ k) → w'.heap[k]? = W8.heap[k]? :=
          same5_any u q z1 z2 W1 W.heap.size W1.heap.size W2.heap.size W3.heap.size W8 LU8 hSu (by omega) SU8 (by omega) (by omega) LQ8 (by omega) (hu.trans hq.symm) (by rw [hu]; omega)
        have SM2 : Hid (∀ W9 : World, Below W.heap.size W8 W9 → (∀ k, k < W8.heap.size → (k < W.heap.size ∨ W1.heap.size ≤ k) → W9.heap[k]? = W8.heap[k]?) → Calls Tryz.prog 36 #[.agg #[.int .i64 x.kind, .int .u64 (x.a : Int), .int .u64 (x.b : Int), .slice x.addr x.parts.length x.cap], .int .i64 0, .int .i64 z3, .agg #[.int .i64 y.kind, .int .u64 (y.a : Int), .int .u64 (y.b : Int), .slice y.addr y.parts.length y.cap], .int .i64 0, .int .i64 z3] W9 fun e w' => e = .returned (.bool true) ∧ Below W4.heap.size W9 w' ∧ ∀ k, k < W9.heap.size → (k < W4.heap.size ∨ W5.heap.size ≤ k) → w'.heap[k]? = W9.heap[k]?) := fun W9 h9 hk9 => by
          have := h9.size
          exact same5_any x y 0 z3 W5 W4.heap.size W5.heap.size W6.heap.size W7.heap.size W9 (LX8.keep fun p h1 h2 => World.cell?_of_block (hk9 _ (by omega) (.inr (by omega)))) hSx (by omega) (Shp.keepL x LX8 SX8 fun g h1 h2 => hk9 g (by omega) (.inr (by omega))) (by omega) (by omega) (LY8.keep fun p h1 h2 => World.cell?_of_block (hk9 _ (by omega) (.inr (by omega)))) (by omega) (hx.trans hy.symm) (by rw [hx]; omega)
        have cu0 := (cell_of_row W8 _ 0 _ _ _ ru8).trans rfl
        have cu1 := (cell_of_row W8 _ 1 _ _ _ ru8).trans rfl
        have cu2 := (cell_of_row W8 _ 2 _ _ _ ru8).trans rfl
        have cu3 := (cell_of_row W8 _ 3 _ _ _ ru8).trans rfl
        have cq0 := (cell_of_row W8 _ 0 _ _ _ rq8).trans rfl
        have cq1 := (cell_of_row W8 _ 1 _ _ _ rq8).trans rfl
        have cq2 := (cell_of_row W8 _ 2 _ _ _ rq8).trans rfl
        have cq3 := (cell_of_row W8 _ 3 _ _ _ rq8).trans rfl
        have RX : Hid (∀ W9 : World, (∀ k, k < W8.heap.size → (k < W.heap.size ∨ W1.heap.size ≤ k) → W9.heap[k]? = W8.heap[k]?) → (W9.cell? ⟨W5.heap.size, 0, none⟩ = some (.int .i64 x.kind) ∧ W9.cell? ⟨W5.heap.size, 1, none⟩ = some (.int .u64 (x.a : Int)) ∧ W9.cell? ⟨W5.heap.size, 2, none⟩ = some (.int .u64 (x.b : Int)) ∧ W9.cell? ⟨W5.heap.size, 3, none⟩ = some (.slice x.addr x.parts.length x.cap)) ∧
            W9.cell? ⟨W7.heap.size, 0, none⟩ = some (.int .i64 y.kind) ∧ W9.cell? ⟨W7.heap.size, 1, none⟩ = some (.int .u64 (y.a : Int)) ∧ W9.cell? ⟨W7.heap.size, 2, none⟩ = some (.int .u64 (y.b : Int)) ∧ W9.cell? ⟨W7.heap.size, 3, none⟩ = some (.slice y.addr y.parts.length y.cap)) := fun W9 hk9 => by
          have h1 := (hk9 W5.heap.size (by omega) (.inr (by omega))).trans rx8
          have h2 := (hk9 W7.heap.size (by omega) (.inr (by omega))).trans ry8
          exact ⟨⟨(cell_of_row W9 _ 0 _ _ _ h1).trans rfl, (cell_of_row W9 _ 1 _ _ _ h1).trans rfl, (cell_of_row W9 _ 2 _ _ _ h1).trans rfl, (cell_of_row W9 _ 3 _ _ _ h1).trans rfl⟩, (cell_of_row W9 _ 0 _ _ _ h2).trans rfl, (cell_of_row W9 _ 1 _ _ _ h2).trans rfl, (cell_of_row W9 _ 2 _ _ _ h2).trans rfl, (cell_of_row W9 _ 3 _ _ _ h2).trans rfl⟩
        have HFIN : Hid (∀ W9 W10 : World, Below W.heap.size W8 W9 → Below W4.heap.size W9 W10 → Below w1.heap.size w1 W10) := fun W9 W10 h1 h2 => by
          have h18 := hw16.trans (hbW6W8.mono hz16)
          have e1 := h1.size
          exact (h18.trans (h1.mono hsW)).trans (h2.mono (by omega))
        clear ru8 rq8 rx8 ry8 LU8 SU8 LQ8 LX8 SX8 LY8 b28 b48 rxW2 rxW4 rxW6 rxW8 bxW2 bxW4 bxW6 bxW8 hLu hSu hLq hSq hLx hSx hLy hSy hu hq hx hy hbW1 hbW3 hbW5 hbW7 hbWW2 hbW2W4 hbW4W6 hbW6W8 hW2 hW4 hW6 hW8 hw12 hw16 PT PP RT RP WK
        generalize u.addr = uA at *
        generalize u.cap = uc at *
        generalize u.parts.length = un at *
        generalize u.kind = uk at *
        generalize (u.a : Int) = ua at *
        generalize (u.b : Int) = ub at *
        generalize q.addr = qA at *
        generalize q.cap = qc at *
        generalize q.parts.length = qn at *
        generalize q.kind = qk at *
        generalize (q.a : Int) = qa at *
        generalize (q.b : Int) = qb at *
        generalize x.addr = xA at *
        generalize x.cap = xc at *
        generalize x.parts.length = xn at *
        generalize x.kind = xk at *
        generalize (x.a : Int) = xa at *
        generalize (x.b : Int) = xb at *
        generalize y.addr = yA at *
        generalize y.cap = yc at *
        generalize y.parts.length = yn at *
        generalize y.kind = yk at *
        generalize (y.a : Int) = ya at *
        generalize (y.b : Int) = yb at *
        go_wp2_with fail
        refine SM1.mono ?_
        rintro e W9 ⟨rfl, hb9, hk9⟩
        have S2 := SM2.out W9 hb9 hk9
        obtain ⟨⟨d0, d1, d2, d3⟩, f0, f1, f2, f3⟩ := RX.out W9 hk9
        have HF9 : Hid (∀ W10, Below W4.heap.size W9 W10 → Below w1.heap.size w1 W10) := fun W10 h => HFIN.out W9 W10 hb9 h
        clear SM1 SM2 RX HFIN hb9 hk9 cu0 cu1 cu2 cu3 cq0 cq1 cq2 cq3
        go_wp2_with fail
        refine S2.mono ?_
        rintro e W10 ⟨rfl, hb10, -⟩
        have HR10 := Lib_hid (HF9.out W10 hb10)
        clear S2 d0 d1 d2 d3 f0 f1 f2 f3 HF9 hb10
        go_wp2_with fail
        go_roundw
        case rel => exact ⟨t + 1, by go_num, by omega, HR10⟩
        case measure => simp [intOf]; omega
      · obtain rfl : t = 2 := by omega
        have SY := same_yes (c := cb) (c' := c1) l W (HRD.out.below hbwW.out) (HR1.out.1.below hbW.out) (by omega)
        have W1 := Lib_hid (fun q => WK.out (W.drewN q) (below_drew_ hbwW.out))
        go_wp2_with fail
        refine SY.mono ?_
        rintro e W2 ⟨rfl, q, rfl⟩
        go_wp2_with fail
        refine (W1.out q).mono ?_
        rintro e W3 ⟨rfl, hb3⟩
        have hbz := (below_drew_ (n := q) hbwW.out).trans (hb3.mono (by have := hbwW.out.size; exact this))
        go_wp2_with fail
        go_ret
        exact ⟨rfl, hbz⟩
  · have hlen : decide ((nb : Int) > 300) = true := decide_eq_true (by omega)
    have hlen2 : (300 : Int) < (nb : Int) := by omega
    have hlen3 : 300 < nb := by omega
    have W1 := WK.out w (Below.refl _ _)
    clear hE WK hrd OK TA hb8
    go_enter Tryz.func4, Tryz.ntmps4
    go_wp2_with fail
    refine W1.mono ?_
    rintro e w6 ⟨rfl, hb6⟩
    go_wp2_with fail
    go_ret
    exact ⟨rfl, hb6⟩

end Go.Proofs.YtiijdacnfhiagaaGreatDoor
