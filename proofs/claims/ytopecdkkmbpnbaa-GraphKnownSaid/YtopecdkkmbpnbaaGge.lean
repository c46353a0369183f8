/-
  Layer 13: what a graph is asked: Len, Many, node, Has of the program.
-/
import Derived.Test.YtopecdkkmbpnbaaGgd
namespace Go.Proofs.Ytopecdkkmbpnbaa
open Go Go.RowKit Go.Maps
set_option linter.unusedVariables false

theorem plen_any {w : World} {p N : Nat} {S : Nat → Prop} {L : List Ed} (h : GmIs w p S N L) :
    Calls Try.prog 30 #[.pointer (some ⟨p, 0, none⟩)] w fun r w' => r = .returned (.int .i64 (N : Int)) ∧ w = w' := by
  obtain ⟨m, go, gi, So, Si, R, I, f, tg, h1, _⟩ := h
  have c0 := h1.c0
  clear h1
  go_enter Try.func30, Try.ntmps30
  go_wp2
  go_ret
  exact ⟨rfl, rfl⟩

theorem pmany_any {w : World} {p N : Nat} {S : Nat → Prop} {L : List Ed} (h : GmIs w p S N L) :
    Calls Try.prog 33 #[.pointer (some ⟨p, 0, none⟩)] w fun r w' => r = .returned (.int .i64 (L.length : Int)) ∧ w = w' := by
  obtain ⟨m, go, gi, So, Si, R, I, f, tg, h1, _⟩ := h
  have c1 := h1.c1
  have hlen := h1.map.len
  clear h1
  generalize L.length = n at *
  go_enter Try.func33, Try.ntmps33
  go_wp2
  go_ret
  exact ⟨rfl, rfl⟩

/-- Is a number a node's? -/
def isN (N : Nat) (n : Int) : Bool := decide (0 ≤ n) && decide (n < N)
theorem isN_iff {N : Nat} {n : Int} : isN N n = true ↔ 0 ≤ n ∧ n < N := by simp [isN]
theorem isN_nat {N : Nat} {n : Int} (h : isN N n = true) : ∃ k : Nat, n = k ∧ k < N := by
  rw [isN_iff] at h
  exact ⟨n.toNat, by omega, by omega⟩
theorem pnode_any {w : World} {p N : Nat} {S : Nat → Prop} {L : List Ed} (h : GmIs w p S N L) (n : Int) :
    Calls Try.prog 42 #[.pointer (some ⟨p, 0, none⟩), .int .i64 n] w fun r w' => r = .returned (.bool (isN N n)) ∧ w = w' := by
  have HL := Lib_hid (plen_any h)
  clear h
  unfold isN
  by_cases hn : 0 ≤ n
  · have d : decide (0 ≤ n) = true := decide_eq_true hn
    rw [d]
    go_enter Try.func42, Try.ntmps42
    go_wp2_with fail
    refine HL.out.mono ?_
    rintro e w1 ⟨rfl, rfl⟩
    go_wp2
    go_ret
    exact ⟨rfl, rfl⟩
  · have d : decide (0 ≤ n) = false := decide_eq_false hn
    rw [d]
    go_enter Try.func42, Try.ntmps42
    go_wp2
    go_ret
    exact ⟨rfl, rfl⟩

set_option maxRecDepth 100000 in
set_option maxHeartbeats 800000 in
theorem phas_any {w : World} {p N : Nat} {S : Nat → Prop} {L : List Ed} (h : GmIs w p S N L) {e : Ed} (he : EdOk e) :
    Calls Try.prog 35 #[.pointer (some ⟨p, 0, none⟩), eV e] w fun r w' => r = .returned (.bool (decide (e ∈ L))) ∧ Below w.heap.size w w' := by
  obtain ⟨m, go, gi, So, Si, R, I, f, tg, h1, _⟩ := h
  have hf := h1.pl.has e
  rw [← hf]
  have hb0 := below_new w (.cells #[.int .i64 e.1, .int .i64 e.2.1, .int .i64 e.2.2] 39)
  have hbx := heap_alloc_new w (.cells #[.int .i64 e.1, .int .i64 e.2.1, .int .i64 e.2.2] 39)
  have hsz : (w.alloc (.cells #[.int .i64 e.1, .int .i64 e.2.1, .int .i64 e.2.2] 39)).heap.size = w.heap.size + 1 := by simp
  have hpl := h1.plt
  have hml := h1.map.lt
  have h2 : GmX (w.alloc (.cells #[.int .i64 e.1, .int .i64 e.2.1, .int .i64 e.2.2] 39)) p N m go gi So Si R I f tg L := h1.keep (by simp) fun k hk _ => hb0.block k hk
  have c1 := h2.c1
  have LK : Hid (∀ V : World, V.heap[m]? = (w.alloc (.cells #[.int .i64 e.1, .int .i64 e.2.1, .int .i64 e.2.2] 39)).heap[m]? → (Instr.lookup 73 (.map (some m)) (.agg #[.int .i64 e.1, .int .i64 e.2.1, .int .i64 e.2.2]) true).run Try.prog V = .ok (.tuple #[.agg #[.int .i64 (((f e).getD (0, 0)).1 : Int), .int .i64 (((f e).getD (0, 0)).2 : Int)], .bool (f e).isSome]) V) := fun V hV => (h2.map.keep hV).look he
  have e0 : (w.alloc (.cells #[.int .i64 e.1, .int .i64 e.2.1, .int .i64 e.2.2] 39)).cell? ⟨w.heap.size, 0, none⟩ = some (.int .i64 e.1) := cell_of_row _ w.heap.size 0 _ _ _ hbx
  have e1 : (w.alloc (.cells #[.int .i64 e.1, .int .i64 e.2.1, .int .i64 e.2.2] 39)).cell? ⟨w.heap.size, 1, none⟩ = some (.int .i64 e.2.1) := cell_of_row _ w.heap.size 1 _ _ _ hbx
  have e2 : (w.alloc (.cells #[.int .i64 e.1, .int .i64 e.2.1, .int .i64 e.2.2] 39)).cell? ⟨w.heap.size, 2, none⟩ = some (.int .i64 e.2.2) := cell_of_row _ w.heap.size 2 _ _ _ hbx
  have HB := Lib_hid hb0
  clear h1 h2 hb0 hbx he hf
  unfold eV
  generalize e.1 = a1 at *
  generalize e.2.1 = a2 at *
  generalize e.2.2 = a3 at *
  generalize (((f e).getD (0, 0)).1 : Int) = p1 at *
  generalize (((f e).getD (0, 0)).2 : Int) = p2 at *
  generalize (f e).isSome = bb at *
  go_enter Try.func35, Try.ntmps35
  go_upto_region 3 with (fail)
  have hpl2 : p < (w.alloc (.cells #[.int .i64 a1, .int .i64 a2, .int .i64 a3] 39)).heap.size := by omega
  have hml2 : m < (w.alloc (.cells #[.int .i64 a1, .int .i64 a2, .int .i64 a3] 39)).heap.size := by omega
  have hgl2 : w.heap.size < (w.alloc (.cells #[.int .i64 a1, .int .i64 a2, .int .i64 a3] 39)).heap.size := by omega
  clear hsz
  generalize w.alloc (.cells #[.int .i64 a1, .int .i64 a2, .int .i64 a3] 39) = W at *
  have KS : Hid (∀ V, Below W.heap.size W V → V.cell? ⟨p, 1, none⟩ = some (.map (some m)) ∧ V.cell? ⟨w.heap.size, 0, none⟩ = some (.int .i64 a1) ∧ V.cell? ⟨w.heap.size, 1, none⟩ = some (.int .i64 a2) ∧ V.cell? ⟨w.heap.size, 2, none⟩ = some (.int .i64 a3) ∧
      (Instr.lookup 73 (.map (some m)) (.agg #[.int .i64 a1, .int .i64 a2, .int .i64 a3]) true).run Try.prog V = .ok (.tuple #[.agg #[.int .i64 p1, .int .i64 p2], .bool bb]) V) := fun V hV =>
    ⟨(hV.cell (p := ⟨p, 1, none⟩) hpl2).trans c1, (hV.cell (p := ⟨w.heap.size, 0, none⟩) hgl2).trans e0, (hV.cell (p := ⟨w.heap.size, 1, none⟩) hgl2).trans e1, (hV.cell (p := ⟨w.heap.size, 2, none⟩) hgl2).trans e2, LK.out V (hV.block m hml2)⟩
  have b0 := below_drew1 W
  go_region_held3 (fun V => V.cell? ⟨p, 1, none⟩ = some (.map (some m)) ∧ V.cell? ⟨w.heap.size, 0, none⟩ = some (.int .i64 a1) ∧ V.cell? ⟨w.heap.size, 1, none⟩ = some (.int .i64 a2) ∧ V.cell? ⟨w.heap.size, 2, none⟩ = some (.int .i64 a3) ∧
      (Instr.lookup 73 (.map (some m)) (.agg #[.int .i64 a1, .int .i64 a2, .int .i64 a3]) true).run Try.prog V = .ok (.tuple #[.agg #[.int .i64 p1, .int .i64 p2], .bool bb]) V)
    (first | exact KS.out _ b0 | exact KS.out _ (b0.alloc (Nat.le_refl _) _))
    (fail)
  all_goals
    go_wp2
    go_ret
    exact ⟨rfl, (HB.out.alloc HB.out.size _).drew⟩

end Go.Proofs.Ytopecdkkmbpnbaa
