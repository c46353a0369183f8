/-
  Layer 4: the statements' same, where both are the same.
-/
import Derived.Test.YtpbmgbeiieapiaaGreatDoorTdy
import Derived.Test.YtpbmgbeiieapiaaGreatDoorTsp
import Derived.Test.YtpbmgbeiieapiaaGreatDoorTex
namespace Go.Proofs.YtpbmgbeiieapiaaGreatDoor
open Go Go.RowKit
set_option linter.unusedVariables false

set_option maxRecDepth 100000 in
set_option maxHeartbeats 3200000 in
theorem same4_any (u r : V) (n z : Int) (lo hi lo2 hi2 : Nat) (w : World) (hu : Lies w lo hi u) (hS : Shp 25 w lo u) (hhi : hi ≤ w.heap.size) (hlo : lo ≤ w.heap.size) (hr : Lies w lo2 hi2 r) (hhi2 : hi2 ≤ w.heap.size) (he : u.abs = r.abs) (hct : u.abs.count ≤ 1000) :
    Calls Tryz.prog 36 #[u.val, .int .i64 n, .int .i64 z, r.val, .int .i64 n, .int .i64 z] w fun e w' => e = .returned (.bool true) ∧ Below lo w w' := by
  have b1 := below_new w (.cells #[.int .i64 u.kind, .int .u64 (u.a : Int), .int .u64 (u.b : Int), .slice u.addr u.parts.length u.cap] 25)
  have r1 := heap_alloc_new w (.cells #[.int .i64 u.kind, .int .u64 (u.a : Int), .int .u64 (u.b : Int), .slice u.addr u.parts.length u.cap] 25)
  obtain ⟨w1, hw1⟩ : ∃ w1, w1 = w.alloc (.cells #[.int .i64 u.kind, .int .u64 (u.a : Int), .int .u64 (u.b : Int), .slice u.addr u.parts.length u.cap] 25) := ⟨_, rfl⟩
  have s1 : w1.heap.size = w.heap.size + 1 := by rw [hw1]; simp
  rw [← hw1] at b1 r1
  have b2 := below_new w1 (.cells #[.int .i64 r.kind, .int .u64 (r.a : Int), .int .u64 (r.b : Int), .slice r.addr r.parts.length r.cap] 30)
  have r2 := heap_alloc_new w1 (.cells #[.int .i64 r.kind, .int .u64 (r.a : Int), .int .u64 (r.b : Int), .slice r.addr r.parts.length r.cap] 30)
  obtain ⟨w2, hw2⟩ : ∃ w2, w2 = w1.alloc (.cells #[.int .i64 r.kind, .int .u64 (r.a : Int), .int .u64 (r.b : Int), .slice r.addr r.parts.length r.cap] 30) := ⟨_, rfl⟩
  have s2 : w2.heap.size = w.heap.size + 2 := by rw [hw2]; simp [s1]
  rw [← hw2, s1] at b2 r2
  have r12 := (b2.block w.heap.size (by omega)).trans r1
  have bw := b1.trans (b2.mono (by omega))
  have DE : Hid (∀ W, Below w2.heap.size w2 W → Calls Tryz.prog 10 #[.agg #[.int .i64 u.kind, .int .u64 (u.a : Int), .int .u64 (u.b : Int), .slice u.addr u.parts.length u.cap]] W fun e w' => ∃ x : V, e = .returned (.agg #[.int .i64 x.kind, .int .u64 (x.a : Int), .int .u64 (x.b : Int), .slice x.addr x.parts.length x.cap]) ∧ x.abs = u.abs ∧ Lies w' W.heap.size w'.heap.size x ∧ Shp 30 w' W.heap.size x ∧ Below W.heap.size W w') := fun W hW =>
    dexpr_any u W lo hi ((hu.under (bw.mono hhi)).under (hW.mono (by omega))) (by have := hW.size; omega) hct
  have RS : Hid (∀ (W W' : World) (x : V), Below w2.heap.size w2 W → x.abs = u.abs → Lies W' W.heap.size W'.heap.size x → Below W.heap.size W W' → Calls Tryz.prog 16 #[.agg #[.int .i64 x.kind, .int .u64 (x.a : Int), .int .u64 (x.b : Int), .slice x.addr x.parts.length x.cap], .agg #[.int .i64 r.kind, .int .u64 (r.a : Int), .int .u64 (r.b : Int), .slice r.addr r.parts.length r.cap]] W' fun e w' => e = .returned (.bool true) ∧ Below W'.heap.size W' w') := fun W W' x hW hx hL hb => by
    have hW' := hW.trans (hb.mono hW.size)
    have := rsame_any x r W' _ _ lo2 hi2 hL (Nat.le_refl _) ((hr.under (bw.mono hhi2)).under (hW'.mono (by omega))) (by have := hW'.size; omega)
    rw [hx, he, (sameB_iff _ _).2 rfl] at this
    exact this
  have SP : Hid (∀ W, Below w2.heap.size w2 W → Calls Tryz.prog 19 #[.agg #[.int .i64 u.kind, .int .u64 (u.a : Int), .int .u64 (u.b : Int), .slice u.addr u.parts.length u.cap]] W fun e w' => e = .returned (.tuple #[]) ∧ Below lo W w') := fun W hW => by
    have hbw := bw.trans (hW.mono bw.size)
    exact (spoil_expr u w W lo u.kind u.a u.b hS ((hS.under bw).under (hW.mono (Nat.le_refl _))) (by have := hbw.size; omega) (by have := hbw.size; omega) hct).mono fun e w' h => ⟨h.1, h.2.below⟩
  have HC : Hid (∀ W, Below w2.heap.size w2 W → (W.cell? ⟨w.heap.size, 0, none⟩ = some (.int .i64 u.kind) ∧ W.cell? ⟨w.heap.size, 1, none⟩ = some (.int .u64 (u.a : Int)) ∧ W.cell? ⟨w.heap.size, 2, none⟩ = some (.int .u64 (u.b : Int)) ∧ W.cell? ⟨w.heap.size, 3, none⟩ = some (.slice u.addr u.parts.length u.cap)) ∧
      W.cell? ⟨w.heap.size + 1, 0, none⟩ = some (.int .i64 r.kind) ∧ W.cell? ⟨w.heap.size + 1, 1, none⟩ = some (.int .u64 (r.a : Int)) ∧ W.cell? ⟨w.heap.size + 1, 2, none⟩ = some (.int .u64 (r.b : Int)) ∧ W.cell? ⟨w.heap.size + 1, 3, none⟩ = some (.slice r.addr r.parts.length r.cap)) := fun W hW => by
    have hx := (hW.block w.heap.size (by omega)).trans r12
    have hy := (hW.block (w.heap.size + 1) (by omega)).trans r2
    exact ⟨⟨(cell_of_row W _ 0 _ _ _ hx).trans rfl, (cell_of_row W _ 1 _ _ _ hx).trans rfl, (cell_of_row W _ 2 _ _ _ hx).trans rfl, (cell_of_row W _ 3 _ _ _ hx).trans rfl⟩, (cell_of_row W _ 0 _ _ _ hy).trans rfl, (cell_of_row W _ 1 _ _ _ hy).trans rfl, (cell_of_row W _ 2 _ _ _ hy).trans rfl, (cell_of_row W _ 3 _ _ _ hy).trans rfl⟩
  have HBW := Lib_hid bw
  have hnn : (n == n) = true := by simp
  have hzz : (z == z) = true := by simp
  subst hw2 hw1
  clear hu hS hr r1 r2 r12 b1 b2 s1 s2 bw he hct
  show Calls _ _ #[.agg #[.int .i64 u.kind, .int .u64 (u.a : Int), .int .u64 (u.b : Int), .slice u.addr u.parts.length u.cap], .int .i64 n, .int .i64 z, .agg #[.int .i64 r.kind, .int .u64 (r.a : Int), .int .u64 (r.b : Int), .slice r.addr r.parts.length r.cap], .int .i64 n, .int .i64 z] w _
  go_enter Tryz.func36, Tryz.ntmps36
  go_upto_region 1 with (fail)
  generalize (w.alloc _).alloc (.cells #[.int .i64 r.kind, .int .u64 (r.a : Int), .int .u64 (r.b : Int), .slice r.addr r.parts.length r.cap] 30) = w2 at *
  generalize u.addr = uA at *
  generalize u.cap = uc at *
  generalize u.parts.length = un at *
  generalize u.kind = uk at *
  generalize (u.a : Int) = ua at *
  generalize (u.b : Int) = ub at *
  generalize r.addr = rA at *
  generalize r.cap = rc at *
  generalize r.parts.length = rn at *
  generalize r.kind = rk at *
  generalize (r.a : Int) = ra at *
  generalize (r.b : Int) = rb at *
  go_region_held3 (fun W => (W.cell? ⟨w.heap.size, 0, none⟩ = some (.int .i64 uk) ∧ W.cell? ⟨w.heap.size, 1, none⟩ = some (.int .u64 ua) ∧ W.cell? ⟨w.heap.size, 2, none⟩ = some (.int .u64 ub) ∧ W.cell? ⟨w.heap.size, 3, none⟩ = some (.slice uA un uc)) ∧
      W.cell? ⟨w.heap.size + 1, 0, none⟩ = some (.int .i64 rk) ∧ W.cell? ⟨w.heap.size + 1, 1, none⟩ = some (.int .u64 ra) ∧ W.cell? ⟨w.heap.size + 1, 2, none⟩ = some (.int .u64 rb) ∧ W.cell? ⟨w.heap.size + 1, 3, none⟩ = some (.slice rA rn rc))
    (first | exact HC.out _ (below_like4 (Below.refl _ _) rfl rfl rfl rfl) | exact HC.out _ hbx | exact HC.out _ hby)
    ((first
      | (go_at_call 10; refine (DE.out _ (by exact below_like4 (Below.refl _ _) rfl rfl rfl rfl)).mono ?_; rintro e wx ⟨x, rfl, hxa, hxL, -, hxb⟩; have hbx : Below w2.heap.size w2 wx := ⟨hxb.os, hxb.tape, hxb.output, hxb.size, hxb.block⟩)
      | (go_at_call 16; refine (RS.out w2 wx x (Below.refl _ _) hxa hxL hbx).mono ?_; rintro e wy ⟨rfl, hyb⟩; have hby := hbx.trans (hyb.mono hbx.size))))
  all_goals
    obtain ⟨⟨d0, d1, d2, d3⟩, -⟩ := HC.out wy hby
    have S1 := SP.out wy hby
    go_wp2_with fail
    refine S1.mono ?_
    rintro e wz ⟨rfl, hz⟩
    have HF := (HBW.out.mono hlo).trans ((hby.mono (by have := HBW.out.size; omega)).trans hz)
    clear S1 d0 d1 d2 d3
    go_wp2_with fail
    go_ret
    exact ⟨rfl, HF⟩

end Go.Proofs.YtpbmgbeiieapiaaGreatDoor
