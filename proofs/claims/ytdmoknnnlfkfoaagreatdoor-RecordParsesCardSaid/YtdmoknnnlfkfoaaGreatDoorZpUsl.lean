/-
  Layer 5: records as plain data, and how one lies in memory.
  Layer 5: the program's parts: the six makers, and of each the function that tells which kinds name it.
  Layer 5: of each part the function that tells whether it is 0, or empty; known.
  Layer 5: Right, the program's.
  Layer 5: partsOf, the program's.
  A row of numbers as cells. No program is named here.
-/
import Derived.Test.YtdmoknnnlfkfoaaGreatDoorZpTse
import Derived.Test.YtdmoknnnlfkfoaaGreatDoorZpTko

namespace Go.Proofs.YtdmoknnnlfkfoaaGreatDoor
open Go Go.RowKit
set_option linter.unusedVariables false
structure En where
  x : Nat
  w : Nat
  n : Nat
  m : Bool
deriving DecidableEq
def En.cells (e : En) : List Value := [.int .u64 (e.x : Int), .int .u64 (e.w : Int), .int .u64 (e.n : Int), .bool e.m]
def En.val (e : En) : Value := .agg #[.int .u64 (e.x : Int), .int .u64 (e.w : Int), .int .u64 (e.n : Int), .bool e.m]
def enCells (l : List En) : List Value := l.flatMap En.cells
def En.ok (e : En) : Prop := (e.x : Int) ≤ 18446744073709551615 ∧ (e.w : Int) ≤ 18446744073709551615 ∧ (e.n : Int) ≤ 18446744073709551615
theorem enCells_append (xs ys : List En) : enCells (xs ++ ys) = enCells xs ++ enCells ys := by simp [enCells]
theorem enCells_get : ∀ (l : List En) (i j : Nat) (x : En), l[i]? = some x → j < 4 → (enCells l)[i * 4 + j]? = x.cells[j]? := by
  intro l
  induction l with
  | nil => intro i j x h; simp at h
  | cons y l ih =>
    intro i j x h hj
    show (y.cells ++ enCells l)[i * 4 + j]? = _
    have hy : y.cells.length = 4 := rfl
    cases i with
    | zero =>
      simp only [List.getElem?_cons_zero, Option.some.injEq] at h
      subst h
      rw [List.getElem?_append_left (by omega)]
      simp
    | succ i =>
      rw [List.getElem?_append_right (by omega), hy, show (i + 1) * 4 + j - 4 = i * 4 + j by omega]
      exact ih i j x (by simpa using h) hj
structure Rc where
  kind : Int
  t : Nat
  x : Nat
  w : Nat
  n : Nat
  v : Nat
  p : T
  es : List En
structure Rv where
  kind : Int
  t : Nat
  x : Nat
  w : Nat
  n : Nat
  v : Nat
  p : V
  A : Option Addr
  c : Nat
  es : List En
def Rv.abs (r : Rv) : Rc := ⟨r.kind, r.t, r.x, r.w, r.n, r.v, r.p.abs, r.es⟩
def Rv.sl (r : Rv) : Value := .slice r.A r.es.length r.c
def Rv.arr (r : Rv) : Array Value := #[.int .i64 r.kind, .int .u64 (r.t : Int), .int .u64 (r.x : Int), .int .u64 (r.w : Int), .int .u64 (r.n : Int), .int .u64 (r.v : Int), .int .i64 r.p.kind, .int .u64 (r.p.a : Int), .int .u64 (r.p.b : Int), r.p.sl, r.sl]
def Rv.val (r : Rv) : Value := .agg r.arr
structure RLies (w : World) (lo hi : Nat) (r : Rv) : Prop where
  kind : -9223372036854775808 ≤ r.kind ∧ r.kind ≤ 9223372036854775807
  t : (r.t : Int) ≤ 18446744073709551615
  x : (r.x : Int) ≤ 18446744073709551615
  wn : (r.w : Int) ≤ 18446744073709551615
  n : (r.n : Int) ≤ 18446744073709551615
  v : (r.v : Int) ≤ 18446744073709551615
  p : Lies w lo hi r.p
  es : Rd w hi 4 r.A r.es.length (enCells r.es)
  cap : r.es.length ≤ r.c ∧ r.c ≤ 9223372036854775807
  ok : ∀ e ∈ r.es, e.ok
  lo : ∀ ad, r.A = some ad → 0 < r.es.length → lo ≤ ad.block
theorem RLies.under {w w' : World} {lo hi : Nat} {r : Rv} (h : RLies w lo hi r) (hb : Below hi w w') : RLies w' lo hi r :=
  ⟨h.kind, h.t, h.x, h.wn, h.n, h.v, h.p.under hb, h.es.below hb, h.cap, h.ok, h.lo⟩
theorem RLies.more {w : World} {lo hi lo' hi' : Nat} {r : Rv} (h : RLies w lo hi r) (h1 : lo' ≤ lo) (h2 : hi ≤ hi') : RLies w lo' hi' r :=
  ⟨h.kind, h.t, h.x, h.wn, h.n, h.v, h.p.more h1 h2, h.es.more h2, h.cap, h.ok, fun ad e hn => Nat.le_trans h1 (h.lo ad e hn)⟩
theorem RLies.keep {w w' : World} {lo hi : Nat} {r : Rv} (h : RLies w lo hi r) (hk : ∀ p : Addr, lo ≤ p.block → p.block < hi → w'.cell? p = w.cell? p) : RLies w' lo hi r := by
  refine ⟨h.kind, h.t, h.x, h.wn, h.n, h.v, h.p.keep hk, ⟨h.es.len, fun hn => ?_⟩, h.cap, h.ok, h.lo⟩
  obtain ⟨ad, e, hb, hc⟩ := h.es.lies hn
  exact ⟨ad, e, hb, fun j u hu => (hk _ (by rw [add_block]; exact h.lo ad e hn) (by rw [add_block]; exact hb)).trans (hc j u hu)⟩
theorem RLies.len {w : World} {lo hi : Nat} {r : Rv} (h : RLies w lo hi r) : (r.es.length : Int) ≤ 9223372036854775807 := by have := h.cap; omega
theorem RLies.nth {w : World} {lo hi : Nat} {r : Rv} (h : RLies w lo hi r) {i : Nat} (hi' : i < r.es.length) :
    ∃ (b off : Nat) (e : En), r.A = some ⟨b, off, none⟩ ∧ b < hi ∧ r.es[i]? = some e ∧ e.ok ∧ w.cell? ⟨b, off + i * 4, none⟩ = some (.int .u64 (e.x : Int)) ∧ w.cell? ⟨b, off + i * 4 + 1, none⟩ = some (.int .u64 (e.w : Int)) ∧ w.cell? ⟨b, off + i * 4 + 2, none⟩ = some (.int .u64 (e.n : Int)) ∧ w.cell? ⟨b, off + i * 4 + 3, none⟩ = some (.bool e.m) := by
  have hx : r.es[i]? = some (r.es[i]) := List.getElem?_eq_getElem hi'
  obtain ⟨ad, e, hb, hc⟩ := h.es.lies (by omega)
  obtain ⟨bb, off, spot⟩ := ad
  have h0 : r.es[0]? = some (r.es[0]'(by omega)) := List.getElem?_eq_getElem (by omega)
  have hspot : spot = none := World.cell?_spot (a := ⟨bb, off, spot⟩) (hc 0 _ (enCells_get r.es 0 0 _ h0 (by omega)))
  subst hspot
  have hc4 : ∀ j u, j < 4 → (En.cells (r.es[i]'hi'))[j]? = some u → w.cell? ⟨bb, off + i * 4 + j, none⟩ = some u := by
    intro j u hj hu
    have := hc (i * 4 + j) u ((enCells_get r.es i j _ hx hj).trans hu)
    rw [show (⟨bb, off, none⟩ : Addr).add (i * 4 + j) = ⟨bb, off + (i * 4 + j), none⟩ by unfold Addr.add; split <;> simp_all, ← Nat.add_assoc] at this
    exact this
  exact ⟨bb, off, _, e, hb, hx, h.ok _ (List.getElem_mem hi'), hc4 0 _ (by omega) rfl, hc4 1 _ (by omega) rfl, hc4 2 _ (by omega) rfl, hc4 3 _ (by omega) rfl⟩
def ofB (i : Nat) (k : Int) : Bool := if i = 0 then true else if i = 1 then decide (k = 2 ∨ k = 3 ∨ k = 4) else if i = 2 then decide (k = 2) else if i = 3 then decide (k = 3) else decide (k = 5)
namespace Rc
def emptyB (r : Rc) (i : Nat) : Bool := if i = 0 then decide (r.t = 0) else if i = 1 then decide (r.x = 0) else if i = 2 then decide (r.w = 0 ∧ r.n = 0) else if i = 3 then decide (r.v = 0) else if i = 4 then r.p.sameB (.node 0 0 0 []) else decide (r.es = [])
def knownB (k : Int) : Bool := decide (1 ≤ k ∧ k ≤ 7)
def bareB (r : Rc) (i : Nat) : Bool := ofB i r.kind || r.emptyB i
end Rc
end Go.Proofs.YtdmoknnnlfkfoaaGreatDoor

namespace Go.Proofs.YtdmoknnnlfkfoaaGreatDoor
open Go Go.RowKit
set_option linter.unusedVariables false
def mofF (i : Nat) : FuncId := if i = 0 then 105 else if i = 1 then 115 else if i = 2 then 121 else if i = 3 then 129 else if i = 4 then 135 else 146
def memptyF (i : Nat) : FuncId := if i = 0 then 106 else if i = 1 then 116 else if i = 2 then 122 else if i = 3 then 130 else if i = 4 then 136 else 147
def mputF (i : Nat) : FuncId := if i = 0 then 107 else if i = 1 then 117 else if i = 2 then 123 else if i = 3 then 131 else if i = 4 then 137 else 148
def mtakeF (i : Nat) : FuncId := if i = 0 then 109 else if i = 1 then 118 else if i = 2 then 124 else if i = 3 then 132 else if i = 4 then 140 else 150
def mtellF (i : Nat) : FuncId := if i = 0 then 111 else if i = 1 then 119 else if i = 2 then 126 else if i = 3 then 133 else if i = 4 then 142 else 152
def mreadF (i : Nat) : FuncId := if i = 0 then 112 else if i = 1 then 120 else if i = 2 then 127 else if i = 3 then 134 else if i = 4 then 144 else 154
def partL (i : Nat) : List Value := [.func (.func (mofF i)) #[] #[], .func (.func (memptyF i)) #[] #[], .func (.func (mputF i)) #[] #[], .func (.func (mtakeF i)) #[] #[], .func (.func (mtellF i)) #[] #[], .func (.func (mreadF i)) #[] #[]]
def partV (i : Nat) : Value := .agg (partL i).toArray
theorem partT_any (w : World) : Calls Tryz.prog 85 #[] w fun e w' => e = .returned (partV 0) ∧ Below w.heap.size w w' := by
  have hsz : (Tryz.prog.info? 86).map (·.size) = some 6 := by kernel_rfl
  go_enter Tryz.func85, Tryz.ntmps85
  go_wp2
  exact bodyPost_ret (results_cell_row (p := 0) (ty := 86) rfl _ _ w.heap.size 86 (partL 0).toArray (0, 0) _ rfl (heap_alloc_new w _) Tryz.underlying86 rfl hsz) rfl ⟨rfl, below_new w _⟩
theorem partX_any (w : World) : Calls Tryz.prog 86 #[] w fun e w' => e = .returned (partV 1) ∧ Below w.heap.size w w' := by
  have hsz : (Tryz.prog.info? 86).map (·.size) = some 6 := by kernel_rfl
  go_enter Tryz.func86, Tryz.ntmps86
  go_wp2
  exact bodyPost_ret (results_cell_row (p := 0) (ty := 86) rfl _ _ w.heap.size 86 (partL 1).toArray (0, 0) _ rfl (heap_alloc_new w _) Tryz.underlying86 rfl hsz) rfl ⟨rfl, below_new w _⟩
theorem partV_any (w : World) : Calls Tryz.prog 87 #[] w fun e w' => e = .returned (partV 2) ∧ Below w.heap.size w w' := by
  have hsz : (Tryz.prog.info? 86).map (·.size) = some 6 := by kernel_rfl
  go_enter Tryz.func87, Tryz.ntmps87
  go_wp2
  exact bodyPost_ret (results_cell_row (p := 0) (ty := 86) rfl _ _ w.heap.size 86 (partL 2).toArray (0, 0) _ rfl (heap_alloc_new w _) Tryz.underlying86 rfl hsz) rfl ⟨rfl, below_new w _⟩
theorem partValue_any (w : World) : Calls Tryz.prog 88 #[] w fun e w' => e = .returned (partV 3) ∧ Below w.heap.size w w' := by
  have hsz : (Tryz.prog.info? 86).map (·.size) = some 6 := by kernel_rfl
  go_enter Tryz.func88, Tryz.ntmps88
  go_wp2
  exact bodyPost_ret (results_cell_row (p := 0) (ty := 86) rfl _ _ w.heap.size 86 (partL 3).toArray (0, 0) _ rfl (heap_alloc_new w _) Tryz.underlying86 rfl hsz) rfl ⟨rfl, below_new w _⟩
theorem partP_any (w : World) : Calls Tryz.prog 89 #[] w fun e w' => e = .returned (partV 4) ∧ Below w.heap.size w w' := by
  have hsz : (Tryz.prog.info? 86).map (·.size) = some 6 := by kernel_rfl
  go_enter Tryz.func89, Tryz.ntmps89
  go_wp2
  exact bodyPost_ret (results_cell_row (p := 0) (ty := 86) rfl _ _ w.heap.size 86 (partL 4).toArray (0, 0) _ rfl (heap_alloc_new w _) Tryz.underlying86 rfl hsz) rfl ⟨rfl, below_new w _⟩
theorem partEntries_any (w : World) : Calls Tryz.prog 90 #[] w fun e w' => e = .returned (partV 5) ∧ Below w.heap.size w w' := by
  have hsz : (Tryz.prog.info? 86).map (·.size) = some 6 := by kernel_rfl
  go_enter Tryz.func90, Tryz.ntmps90
  go_wp2
  exact bodyPost_ret (results_cell_row (p := 0) (ty := 86) rfl _ _ w.heap.size 86 (partL 5).toArray (0, 0) _ rfl (heap_alloc_new w _) Tryz.underlying86 rfl hsz) rfl ⟨rfl, below_new w _⟩
theorem ofT_any (k : Int) (w : World) : Calls Tryz.prog 105 #[.int .i64 k] w fun e w' => e = .returned (.bool (ofB 0 k)) ∧ w' = w := by
  go_enter Tryz.func105, Tryz.ntmps105
  go_wp2
  go_ret
  exact ⟨rfl, rfl⟩
theorem ofX_any (k : Int) (w : World) : Calls Tryz.prog 115 #[.int .i64 k] w fun e w' => e = .returned (.bool (ofB 1 k)) ∧ w' = w := by
  go_enter Tryz.func115, Tryz.ntmps115
  go_wp2
  · subst_vars
    go_ret
    exact ⟨rfl, rfl⟩
  · subst_vars
    go_ret
    exact ⟨rfl, rfl⟩
  · go_ret
    exact ⟨ret_b (by rw [Bool.eq_iff_iff]; simp [ofB, or_assoc]), rfl⟩
theorem ofV_any (k : Int) (w : World) : Calls Tryz.prog 121 #[.int .i64 k] w fun e w' => e = .returned (.bool (ofB 2 k)) ∧ w' = w := by
  go_enter Tryz.func121, Tryz.ntmps121
  go_wp2
  go_ret
  exact ⟨ret_b (by rw [Bool.eq_iff_iff]; simp [ofB]), rfl⟩
theorem ofValue_any (k : Int) (w : World) : Calls Tryz.prog 129 #[.int .i64 k] w fun e w' => e = .returned (.bool (ofB 3 k)) ∧ w' = w := by
  go_enter Tryz.func129, Tryz.ntmps129
  go_wp2
  go_ret
  exact ⟨ret_b (by rw [Bool.eq_iff_iff]; simp [ofB]), rfl⟩
theorem ofP_any (k : Int) (w : World) : Calls Tryz.prog 135 #[.int .i64 k] w fun e w' => e = .returned (.bool (ofB 4 k)) ∧ w' = w := by
  go_enter Tryz.func135, Tryz.ntmps135
  go_wp2
  go_ret
  exact ⟨ret_b (by rw [Bool.eq_iff_iff]; simp [ofB]), rfl⟩
theorem ofEntries_any (k : Int) (w : World) : Calls Tryz.prog 146 #[.int .i64 k] w fun e w' => e = .returned (.bool (ofB 5 k)) ∧ w' = w := by
  go_enter Tryz.func146, Tryz.ntmps146
  go_wp2
  go_ret
  exact ⟨ret_b (by rw [Bool.eq_iff_iff]; simp [ofB]), rfl⟩
theorem below_row {B : Nat} {w w' : World} (h : Below B w w') {g : Nat} (hg : B ≤ g) (cs : Array Value) : Below B w (w'.setRow g cs) := by
  refine ⟨h.os, h.tape, h.output, by simpa [World.setRow] using h.size, fun k hk => ?_⟩
  refine Eq.trans ?_ (h.block k hk)
  simp only [World.setRow, Array.getElem?_modify]
  rw [if_neg (by omega)]
def partsA : Array Value := ((List.range 6).flatMap partL).toArray
def partsZ : Array Value := (List.replicate 36 Value.nilFunc).toArray
theorem partsA_one : (partsA.all fun x => x.oneCell') = true := by kernel_rfl
set_option maxRecDepth 100000 in
set_option maxHeartbeats 1600000 in
theorem parts_any (w : World) : Calls Tryz.prog 59 #[] w fun e w' => e = .returned (.agg partsA) ∧ Below w.heap.size w w' := by
  have hsz : (Tryz.prog.info? 139).map (·.size) = some 36 := by kernel_rfl
  have h0 := heap_alloc_new w (.cells partsZ 139)
  have b0 := below_new w (.cells partsZ 139)
  go_enter Tryz.func59, Tryz.ntmps59
  go_wp2_with fail
  refine (partT_any _).mono ?_
  rintro e w1 ⟨rfl, hb1⟩
  have hg1 := (hb1.block w.heap.size (by simp)).trans h0
  have hs1 : w.heap.size < w1.heap.size := lt_of_block hg1
  replace hb1 := b0.trans (hb1.mono b0.size)
  go_wp2_with fail
  refine (partX_any _).mono ?_
  rintro e w2 ⟨rfl, hb2⟩
  have hg2 := (hb2.block _ (lt_of_block hg1)).trans hg1
  replace hb2 := hb1.trans (hb2.mono hb1.size)
  go_wp2_with fail
  refine (partV_any _).mono ?_
  rintro e w3 ⟨rfl, hb3⟩
  have hg3 := (hb3.block _ (lt_of_block hg2)).trans hg2
  replace hb3 := hb2.trans (hb3.mono hb2.size)
  go_wp2_with fail
  refine (partValue_any _).mono ?_
  rintro e w4 ⟨rfl, hb4⟩
  have hg4 := (hb4.block _ (lt_of_block hg3)).trans hg3
  replace hb4 := hb3.trans (hb4.mono hb3.size)
  go_wp2_with fail
  refine (partP_any _).mono ?_
  rintro e w5 ⟨rfl, hb5⟩
  have hg5 := (hb5.block _ (lt_of_block hg4)).trans hg4
  replace hb5 := hb4.trans (hb5.mono hb4.size)
  go_wp2_with fail
  refine (partEntries_any _).mono ?_
  rintro e w6 ⟨rfl, hb6⟩
  have hg6 := (hb6.block _ (lt_of_block hg5)).trans hg5
  replace hb6 := hb5.trans (hb6.mono hb5.size)
  clear hb1 hb2 hb3 hb4 hb5 hg1 hg2 hg3 hg4 hg5 h0 b0
  rename_i K hK
  show K _ _
  refine hK _ _ ?_
  refine wpList_buildTo rfl 139 _ rfl (some 7) rfl partsA (by kernel_rfl) ?_
  refine wpList_store_rowTo rfl 139 (.tmp 0) (.tmp 7) rfl rfl w.heap.size partsA rfl rfl 139 partsZ hg6 hsz rfl partsA_one ?_
  go_wp2
  exact bodyPost_ret (results_cell_row (p := 0) (ty := 139) rfl _ _ w.heap.size 139 partsA (0, 0) _ rfl (setRow_heap _ _ partsZ partsA _ _ hg6) Tryz.underlying139 rfl hsz) rfl ⟨rfl, below_row hb6 (Nat.le_refl _) _⟩
end Go.Proofs.YtdmoknnnlfkfoaaGreatDoor

namespace Go.Proofs.YtdmoknnnlfkfoaaGreatDoor
open Go Go.RowKit
set_option linter.unusedVariables false
theorem eq0_nat (a : Nat) : ((a : Int) == 0) = decide (a = 0) := by rw [Bool.eq_iff_iff]; simp
theorem known_any (k : Int) (w : World) : Calls Tryz.prog 23 #[.int .i64 k] w fun e w' => e = .returned (.bool (Rc.knownB k)) ∧ w' = w := by
  by_cases h1 : 1 ≤ k
  · by_cases h7 : k ≤ 7
    · have HK : Hid (Rc.knownB k = true) := by unfold Rc.knownB Hid; simp; omega
      go_enter Tryz.func23, Tryz.ntmps23
      go_wp2
      go_ret
      exact ⟨ret_b (by rw [HK.out]), rfl⟩
    · have HK : Hid (Rc.knownB k = false) := by unfold Rc.knownB Hid; simp; omega
      go_enter Tryz.func23, Tryz.ntmps23
      go_wp2
      go_ret
      exact ⟨ret_b (by rw [HK.out]), rfl⟩
  · have HK : Hid (Rc.knownB k = false) := by unfold Rc.knownB Hid; simp; omega
    go_enter Tryz.func23, Tryz.ntmps23
    go_wp2
    go_ret
    exact ⟨ret_b (by rw [HK.out]), rfl⟩
theorem unborn_any (a b : Nat) (w : World) : Calls Tryz.prog 48 #[.agg #[.int .u64 (a : Int), .int .u64 (b : Int)]] w fun e w' => e = .returned (.bool (decide (a = 0 ∧ b = 0))) ∧ Below w.heap.size w w' := by
  go_enter Tryz.func48, Tryz.ntmps48
  go_wp2
  · have HK : Hid (decide (a = 0 ∧ b = 0) = true) := Lib_hid (by simp_all)
    subst_vars
    go_ret
    exact ⟨rfl, below_new w _⟩
  · have HK : Hid (decide (a = 0 ∧ b = 0) = false) := Lib_hid (by simp_all)
    go_ret
    exact ⟨ret_b HK.out.symm, below_new w _⟩
  · have HK : Hid (decide (a = 0 ∧ b = 0) = false) := Lib_hid (by simp_all)
    go_ret
    exact ⟨ret_b HK.out.symm, below_new w _⟩
theorem emptyT_any (r : Rv) (w : World) : Calls Tryz.prog 106 #[r.val] w fun e w' => e = .returned (.bool (r.abs.emptyB 0)) ∧ Below w.heap.size w w' := by
  obtain ⟨k, t, x, wn, n, v, p, A, c, es⟩ := r
  simp only [Rv.val, Rv.arr, Rv.sl, V.sl]
  go_enter Tryz.func106, Tryz.ntmps106
  go_wp2
  go_ret
  exact ⟨ret_b (eq0_nat t), below_new w _⟩
theorem emptyX_any (r : Rv) (w : World) : Calls Tryz.prog 116 #[r.val] w fun e w' => e = .returned (.bool (r.abs.emptyB 1)) ∧ Below w.heap.size w w' := by
  obtain ⟨k, t, x, wn, n, v, p, A, c, es⟩ := r
  simp only [Rv.val, Rv.arr, Rv.sl, V.sl]
  go_enter Tryz.func116, Tryz.ntmps116
  go_wp2
  go_ret
  exact ⟨ret_b (eq0_nat x), below_new w _⟩
theorem emptyV_any (r : Rv) (w : World) : Calls Tryz.prog 122 #[r.val] w fun e w' => e = .returned (.bool (r.abs.emptyB 2)) ∧ Below w.heap.size w w' := by
  obtain ⟨k, t, x, wn, n, v, p, A, c, es⟩ := r
  have HE : Hid ((Rv.abs ⟨k, t, x, wn, n, v, p, A, c, es⟩).emptyB 2 = decide (wn = 0 ∧ n = 0)) := Lib_hid rfl
  generalize (Rv.abs ⟨k, t, x, wn, n, v, p, A, c, es⟩).emptyB 2 = eb at *
  simp only [Rv.val, Rv.arr, Rv.sl, V.sl]
  go_enter Tryz.func122, Tryz.ntmps122
  go_wp2_with fail
  refine (unborn_any wn n _).mono ?_
  rintro e w1 ⟨rfl, hb1⟩
  have hb := (below_new w (.cells #[.int .i64 k, .int .u64 (t : Int), .int .u64 (x : Int), .int .u64 (wn : Int), .int .u64 (n : Int), .int .u64 (v : Int), .int .i64 p.kind, .int .u64 (p.a : Int), .int .u64 (p.b : Int), .slice p.addr p.parts.length p.cap, .slice A es.length c] 47)).trans (hb1.mono (by simp))
  clear hb1
  generalize decide (wn = 0 ∧ n = 0) = ub at *
  go_wp2
  go_ret
  exact ⟨ret_b HE.out.symm, hb⟩
theorem emptyValue_any (r : Rv) (w : World) : Calls Tryz.prog 130 #[r.val] w fun e w' => e = .returned (.bool (r.abs.emptyB 3)) ∧ Below w.heap.size w w' := by
  obtain ⟨k, t, x, wn, n, v, p, A, c, es⟩ := r
  simp only [Rv.val, Rv.arr, Rv.sl, V.sl]
  go_enter Tryz.func130, Tryz.ntmps130
  go_wp2
  go_ret
  exact ⟨ret_b (eq0_nat v), below_new w _⟩
theorem emptyEntries_any (r : Rv) (w : World) : Calls Tryz.prog 147 #[r.val] w fun e w' => e = .returned (.bool (r.abs.emptyB 5)) ∧ Below w.heap.size w w' := by
  obtain ⟨k, t, x, wn, n, v, p, A, c, es⟩ := r
  have HE : Hid ((Rv.abs ⟨k, t, x, wn, n, v, p, A, c, es⟩).emptyB 5 = decide (es = [])) := Lib_hid rfl
  generalize (Rv.abs ⟨k, t, x, wn, n, v, p, A, c, es⟩).emptyB 5 = eb at *
  simp only [Rv.val, Rv.arr, Rv.sl, V.sl]
  go_enter Tryz.func147, Tryz.ntmps147
  go_wp2
  go_ret
  exact ⟨ret_b ((by rw [Bool.eq_iff_iff]; simp : ((es.length : Int) == 0) = decide (es = [])).trans HE.out.symm), below_new w _⟩
theorem lies_zero (w : World) (lo hi : Nat) : Lies w lo hi (.node 0 0 0 none 0 []) := .mk 0 0 0 none 0 [] ⟨by omega, by omega⟩ (by omega) (by omega) Rd.zero ⟨Nat.le_refl _, by omega⟩ (fun ad e hn => absurd hn (by simp)) (fun p hp => by cases hp)
theorem emptyP_any (r : Rv) (w : World) (lo hi : Nat) (h : RLies w lo hi r) (hhi : hi ≤ w.heap.size) : Calls Tryz.prog 136 #[r.val] w fun e w' => e = .returned (.bool (r.abs.emptyB 4)) ∧ Below w.heap.size w w' := by
  obtain ⟨k, t, x, wn, n, v, p, A, c, es⟩ := r
  have HE : Hid ((Rv.abs ⟨k, t, x, wn, n, v, p, A, c, es⟩).emptyB 4 = p.abs.sameB (.node 0 0 0 [])) := Lib_hid rfl
  generalize (Rv.abs ⟨k, t, x, wn, n, v, p, A, c, es⟩).emptyB 4 = eb at *
  have hb := below_new w (.cells #[.int .i64 k, .int .u64 (t : Int), .int .u64 (x : Int), .int .u64 (wn : Int), .int .u64 (n : Int), .int .u64 (v : Int), .int .i64 p.kind, .int .u64 (p.a : Int), .int .u64 (p.b : Int), .slice p.addr p.parts.length p.cap, .slice A es.length c] 47)
  have PS := psame_any p (.node 0 0 0 none 0 []) _ lo hi 0 0 (h.p.under (hb.mono hhi)) (by have := hb.size; omega) (lies_zero _ 0 0) (Nat.zero_le _)
  clear h
  simp only [V.val, V.sl, V.kind, V.a, V.b, V.addr, V.parts, V.cap] at PS
  simp only [Rv.val, Rv.arr, Rv.sl, V.sl]
  go_enter Tryz.func136, Tryz.ntmps136
  go_wp2_with fail
  refine PS.mono ?_
  rintro e w1 ⟨rfl, hb1⟩
  replace hb1 := hb.trans (hb1.mono hb.size)
  have HE2 : Hid (p.abs.sameB (V.node 0 0 0 none 0 []).abs = eb) := Lib_hid (by rw [V.abs, V.absL]; exact HE.out.symm)
  generalize p.abs.sameB (V.node 0 0 0 none 0 []).abs = ub at *
  clear HE hb
  go_wp2
  go_ret
  exact ⟨ret_b HE2.out, hb1⟩
theorem empty_any (i : Nat) (hi6 : i < 6) (r : Rv) (w : World) (lo hi : Nat) (h : RLies w lo hi r) (hhi : hi ≤ w.heap.size) : Calls Tryz.prog (memptyF i) #[r.val] w fun e w' => e = .returned (.bool (r.abs.emptyB i)) ∧ Below w.heap.size w w' := by
  have : i = 0 ∨ i = 1 ∨ i = 2 ∨ i = 3 ∨ i = 4 ∨ i = 5 := by omega
  rcases this with rfl | rfl | rfl | rfl | rfl | rfl
  · exact emptyT_any r w
  · exact emptyX_any r w
  · exact emptyV_any r w
  · exact emptyValue_any r w
  · exact emptyP_any r w lo hi h hhi
  · exact emptyEntries_any r w
theorem of_any (i : Nat) (hi6 : i < 6) (k : Int) (w : World) : Calls Tryz.prog (mofF i) #[.int .i64 k] w fun e w' => e = .returned (.bool (ofB i k)) ∧ w' = w := by
  have : i = 0 ∨ i = 1 ∨ i = 2 ∨ i = 3 ∨ i = 4 ∨ i = 5 := by omega
  rcases this with rfl | rfl | rfl | rfl | rfl | rfl
  · exact ofT_any k w
  · exact ofX_any k w
  · exact ofV_any k w
  · exact ofValue_any k w
  · exact ofP_any k w
  · exact ofEntries_any k w
set_option maxRecDepth 100000 in
theorem call_of {i : Nat} (hi6 : i < 6) : ∀ (args : Array Value) (wx : World), (callFunc (mofF i) args).run Tryz.prog wx = .ok (.enter (mofF i) args) wx := by
  have : i = 0 ∨ i = 1 ∨ i = 2 ∨ i = 3 ∨ i = 4 ∨ i = 5 := by omega
  rcases this with rfl | rfl | rfl | rfl | rfl | rfl <;> exact fun args wx => by kernel_rfl
set_option maxRecDepth 100000 in
theorem call_empty {i : Nat} (hi6 : i < 6) : ∀ (args : Array Value) (wx : World), (callFunc (memptyF i) args).run Tryz.prog wx = .ok (.enter (memptyF i) args) wx := by
  have : i = 0 ∨ i = 1 ∨ i = 2 ∨ i = 3 ∨ i = 4 ∨ i = 5 := by omega
  rcases this with rfl | rfl | rfl | rfl | rfl | rfl <;> exact fun args wx => by kernel_rfl
end Go.Proofs.YtdmoknnnlfkfoaaGreatDoor

namespace Go.Proofs.YtdmoknnnlfkfoaaGreatDoor
open Go Go.RowKit
set_option linter.unusedVariables false
def Rc.rightB (r : Rc) : Bool := Rc.knownB r.kind && (List.range 6).all r.bareB && (decide (r.kind ≠ 5) || r.p.rightB)
set_option maxRecDepth 100000 in
theorem index_part {i : Nat} (hi6 : i < 6) : ∀ wx, (Instr.index 139 (.agg partsA) (.int .i64 (i : Int))).run Tryz.prog wx = .ok (.agg #[.func (.func (mofF i)) #[] #[], .func (.func (memptyF i)) #[] #[], .func (.func (mputF i)) #[] #[], .func (.func (mtakeF i)) #[] #[], .func (.func (mtellF i)) #[] #[], .func (.func (mreadF i)) #[] #[]]) wx := by
  have : i = 0 ∨ i = 1 ∨ i = 2 ∨ i = 3 ∨ i = 4 ∨ i = 5 := by omega
  rcases this with rfl | rfl | rfl | rfl | rfl | rfl <;> exact fun wx => by kernel_rfl
theorem rightB_parts (r : Rc) : (Rc.knownB r.kind = false → r.rightB = false) ∧ (∀ i, i < 6 → r.bareB i = false → r.rightB = false) ∧
    (Rc.knownB r.kind = true → (∀ i, i < 6 → r.bareB i = true) → (r.kind ≠ 5 → r.rightB = true) ∧ (r.kind = 5 → r.rightB = r.p.rightB)) := by
  refine ⟨fun h => by simp [Rc.rightB, h], fun i hi h => ?_, fun h h2 => ?_⟩
  · have : (List.range 6).all r.bareB = false := by
      rw [List.all_eq_false]
      exact ⟨i, List.mem_range.2 hi, by simp [h]⟩
    simp [Rc.rightB, this]
  · have : (List.range 6).all r.bareB = true := by
      rw [List.all_eq_true]
      exact fun i hi => h2 i (List.mem_range.1 hi)
    exact ⟨fun h5 => by simp [Rc.rightB, h, this, h5], fun h5 => by rw [h5] at h; simp [Rc.rightB, h, this, h5]⟩
theorem rec_cells {w : World} {b : Nat} {a0 a1 a2 a3 a4 a5 a6 a7 a8 a9 a10 : Value} {T : TypeId} (h : w.heap[b]? = some (.cells #[a0, a1, a2, a3, a4, a5, a6, a7, a8, a9, a10] T (0, 0))) :
    w.cell? ⟨b, 0, none⟩ = some a0 ∧ w.cell? ⟨b, 1, none⟩ = some a1 ∧ w.cell? ⟨b, 2, none⟩ = some a2 ∧ w.cell? ⟨b, 3, none⟩ = some a3 ∧ w.cell? ⟨b, 4, none⟩ = some a4 ∧ w.cell? ⟨b, 5, none⟩ = some a5 ∧ w.cell? ⟨b, 6, none⟩ = some a6 ∧ w.cell? ⟨b, 7, none⟩ = some a7 ∧ w.cell? ⟨b, 8, none⟩ = some a8 ∧ w.cell? ⟨b, 9, none⟩ = some a9 ∧ w.cell? ⟨b, 10, none⟩ = some a10 :=
  ⟨cell_of_row w _ 0 _ _ _ h, cell_of_row w _ 1 _ _ _ h, cell_of_row w _ 2 _ _ _ h, cell_of_row w _ 3 _ _ _ h, cell_of_row w _ 4 _ _ _ h, cell_of_row w _ 5 _ _ _ h, cell_of_row w _ 6 _ _ _ h, cell_of_row w _ 7 _ _ _ h, cell_of_row w _ 8 _ _ _ h, cell_of_row w _ 9 _ _ _ h, cell_of_row w _ 10 _ _ _ h⟩
set_option maxRecDepth 100000 in
set_option maxHeartbeats 3200000 in
theorem right5_any (r : Rv) (w : World) (lo hi : Nat) (h : RLies w lo hi r) (hhi : hi ≤ w.heap.size) :
    Calls Tryz.prog 41 #[r.val] w fun e w' => e = .returned (.bool r.abs.rightB) ∧ Below w.heap.size w w' := by
  have HR : Hid (∀ W, Below w.heap.size w W → RLies W lo hi r ∧ hi ≤ W.heap.size) := fun W hW => ⟨h.under (hW.mono hhi), Nat.le_trans hhi hW.size⟩
  have HB := Lib_hid (rightB_parts r.abs)
  have EM : Hid (∀ (i : Nat), i < 6 → ∀ W, Below w.heap.size w W → Calls Tryz.prog (memptyF i) #[r.val] W fun e w' => e = .returned (.bool (r.abs.emptyB i)) ∧ Below W.heap.size W w') := fun i hi6 W hW => empty_any i hi6 r W lo hi (HR.out W hW).1 (HR.out W hW).2
  have PR : Hid (∀ W, Below w.heap.size w W → Calls Tryz.prog 68 #[r.p.val] W fun e w' => e = .returned (.bool r.abs.p.rightB) ∧ Below W.heap.size W w') := fun W hW => pright_any r.p W lo hi (HR.out W hW).1.p (HR.out W hW).2
  have HE : Hid (∀ i, r.abs.bareB i = (ofB i r.kind || r.abs.emptyB i)) := Lib_hid fun i => rfl
  have HK : Hid (r.abs.kind = r.kind) := rfl
  have hk64 := h.kind
  clear h
  generalize r.abs = ra at *
  obtain ⟨k, t, x, wn, n, v, p, A, c, es⟩ := r
  have hbx := heap_alloc_new w (.cells #[.int .i64 k, .int .u64 (t : Int), .int .u64 (x : Int), .int .u64 (wn : Int), .int .u64 (n : Int), .int .u64 (v : Int), .int .i64 p.kind, .int .u64 (p.a : Int), .int .u64 (p.b : Int), .slice p.addr p.parts.length p.cap, .slice A es.length c] 47)
  have hb0 := below_new w (.cells #[.int .i64 k, .int .u64 (t : Int), .int .u64 (x : Int), .int .u64 (wn : Int), .int .u64 (n : Int), .int .u64 (v : Int), .int .i64 p.kind, .int .u64 (p.a : Int), .int .u64 (p.b : Int), .slice p.addr p.parts.length p.cap, .slice A es.length c] 47)
  simp only [Rv.val, Rv.arr, Rv.sl, V.sl, V.val] at EM PR HR HE HK hk64 ⊢
  go_enter Tryz.func41, Tryz.ntmps41
  go_wp2_with fail
  refine (known_any k _).mono ?_
  rintro e w1 ⟨rfl, rfl⟩
  cases hkn : Rc.knownB k with
  | false =>
    have HF := Lib_hid (HB.out.1 (by rw [HK.out]; exact hkn))
    go_wp2
    go_ret
    exact ⟨ret_b HF.out.symm, hb0⟩
  | true =>
    go_wp2_with fail
    refine (parts_any _).mono ?_
    rintro e w2 ⟨rfl, hb2⟩
    have hx2 := (hb2.block w.heap.size (by simp)).trans hbx
    replace hb2 := hb0.trans (hb2.mono hb0.size)
    have HIX := Lib_hid (fun (i : Nat) (hi6 : i < 6) => index_part hi6)
    generalize partsA = pa at *
    clear hbx hb0
    go_wp2
    go_loopw [10] (fun z wr => ∃ i : Nat, z = .int .i64 i ∧ i ≤ 6 ∧ Hid (∀ j, j < i → ra.bareB j = true) ∧ wr.heap[w.heap.size]? = some (.cells #[.int .i64 k, .int .u64 (t : Int), .int .u64 (x : Int), .int .u64 (wn : Int), .int .u64 (n : Int), .int .u64 (v : Int), .int .i64 p.kind, .int .u64 (p.a : Int), .int .u64 (p.b : Int), .slice p.addr p.parts.length p.cap, .slice A es.length c] 47 (0, 0)) ∧ Below w.heap.size w wr) (fun z _ => 6 - (intOf z).toNat)
    case atStart => exact ⟨0, rfl, by omega, fun j hj => absurd hj (by omega), hx2, hb2⟩
    case round =>
      clear hx2 hb2
      obtain ⟨i, rfl, hi6, hall, hbx, hbw⟩ := hrel
      have hgl := lt_of_block hbx
      have c0 : wr.cell? ⟨w.heap.size, 0, none⟩ = some (.int .i64 k) := cell_of_row wr _ 0 _ _ _ hbx
      by_cases hlt : i < 6
      · have hix := HIX.out i hlt
        have hco := call_of hlt
        have hce := call_empty hlt
        have OF := of_any i hlt k
        have CE := EM.out i hlt
        have hbe := HE.out i
        have hba := HB.out.2.1 i hlt
        rw [hbe] at hba
        have hb2 := hbw.alloc hbw.size (.cells #[.func (.func (mofF i)) #[] #[], .func (.func (memptyF i)) #[] #[], .func (.func (mputF i)) #[] #[], .func (.func (mtakeF i)) #[] #[], .func (.func (mtellF i)) #[] #[], .func (.func (mreadF i)) #[] #[]] 86)
        have hx2 := (heap_alloc_old wr (.cells #[.func (.func (mofF i)) #[] #[], .func (.func (memptyF i)) #[] #[], .func (.func (mputF i)) #[] #[], .func (.func (mtakeF i)) #[] #[], .func (.func (mtellF i)) #[] #[], .func (.func (mreadF i)) #[] #[]] 86) hgl).trans hbx
        have hp2 := heap_alloc_new wr (.cells #[.func (.func (mofF i)) #[] #[], .func (.func (memptyF i)) #[] #[], .func (.func (mputF i)) #[] #[], .func (.func (mtakeF i)) #[] #[], .func (.func (mtellF i)) #[] #[], .func (.func (mreadF i)) #[] #[]] 86)
        replace CE := CE _ hb2
        generalize mofF i = f1 at *
        generalize memptyF i = f2 at *
        generalize mputF i = f3 at *
        generalize mtakeF i = f4 at *
        generalize mtellF i = f5 at *
        generalize mreadF i = f6 at *
        clear c0
        go_upto_region 6 with (fail)
        generalize wr.alloc (.cells #[.func (.func f1) #[] #[], .func (.func f2) #[] #[], .func (.func f3) #[] #[], .func (.func f4) #[] #[], .func (.func f5) #[] #[], .func (.func f6) #[] #[]] 86) = w3 at *
        have hgb : w.heap.size < w3.heap.size := lt_of_block hx2
        have c0 : w3.cell? ⟨w.heap.size, 0, none⟩ = some (.int .i64 k) := cell_of_row w3 _ 0 _ _ _ hx2
        have d0 : w3.cell? ⟨wr.heap.size, 0, none⟩ = some (.func (.func f1) #[] #[]) := cell_of_row w3 _ 0 _ _ _ hp2
        have d1 : w3.cell? ⟨wr.heap.size, 1, none⟩ = some (.func (.func f2) #[] #[]) := cell_of_row w3 _ 1 _ _ _ hp2
        cases ho : ofB i k with
        | true =>
          have HN : Hid (∀ j, j < i + 1 → ra.bareB j = true) := fun j hj => by
            rcases Nat.lt_or_ge j i with h | h
            · exact hall.out j h
            · obtain rfl : j = i := by omega
              rw [hbe, ho]; rfl
          rw [ho] at OF
          clear hba hbe ho CE hall
          go_wp2_with fail
          refine (OF _).mono ?_
          rintro e w4 ⟨rfl, rfl⟩
          go_wp2
          go_roundw
          case rel => exact ⟨i + 1, by go_num, by omega, HN, hx2, hb2⟩
          case measure => simp [intOf]; omega
        | false =>
          rw [ho] at OF hba hbe
          clear c0
          obtain ⟨c0, c1, c2, c3, c4, c5, c6, c7, c8, c9, c10⟩ := rec_cells hx2
          go_wp2_with fail
          refine (OF _).mono ?_
          rintro e w4 ⟨rfl, rfl⟩
          go_wp2_with fail
          refine CE.mono ?_
          rintro e w5 ⟨rfl, hb5⟩
          have hx5 := (hb5.block _ hgb).trans hx2
          clear c0 c1 c2 c3 c4 c5 c6 c7 c8 c9 c10
          replace hb5 := hb2.trans (hb5.mono hb2.size)
          cases he : ra.emptyB i with
          | true =>
            have HN : Hid (∀ j, j < i + 1 → ra.bareB j = true) := fun j hj => by
              rcases Nat.lt_or_ge j i with h | h
              · exact hall.out j h
              · obtain rfl : j = i := by omega
                rw [hbe, he]; rfl
            clear hba hbe ho CE OF hall d0 d1 hx2 hp2 hb2
            go_wp2
            go_roundw
            case rel => exact ⟨i + 1, by go_num, by omega, HN, hx5, hb5⟩
            case measure => simp [intOf]; omega
          | false =>
            have HF := Lib_hid (hba (by rw [he]; rfl))
            clear hba hbe ho CE OF hall d0 d1 hx2 hp2 hb2
            go_wp2
            go_ret
            exact ⟨ret_b HF.out.symm, hb5⟩
      · obtain rfl : i = 6 := by omega
        have HL := Lib_hid (HB.out.2.2 (by rw [HK.out]; exact hkn) hall.out)
        by_cases h5 : k = 5
        · have PP := PR.out _ hbw
          have HL5 := Lib_hid (HL.out.2 (by rw [HK.out]; exact h5))
          have hbw1 := hbw
          subst h5
          have c5 : wr.cell? ⟨w.heap.size, 6, none⟩ = some (.int .i64 p.kind) := cell_of_row wr _ 6 _ _ _ hbx
          have c6 : wr.cell? ⟨w.heap.size, 7, none⟩ = some (.int .u64 (p.a : Int)) := cell_of_row wr _ 7 _ _ _ hbx
          have c7 : wr.cell? ⟨w.heap.size, 8, none⟩ = some (.int .u64 (p.b : Int)) := cell_of_row wr _ 8 _ _ _ hbx
          have c8 : wr.cell? ⟨w.heap.size, 9, none⟩ = some (.slice p.addr p.parts.length p.cap) := cell_of_row wr _ 9 _ _ _ hbx
          go_wp2_with fail
          refine PP.mono ?_
          rintro e w3 ⟨rfl, hb3⟩
          have hb4 := hbw.trans (hb3.mono hbw.size)
          clear hb3 c0 c5 c6 c7 c8
          generalize ra.p.rightB = pr at *
          go_wp2
          go_ret
          exact ⟨ret_b HL5.out.symm, hb4⟩
        · have HL6 := Lib_hid (HL.out.1 (by rw [HK.out]; exact h5))
          have q5 : (k != 5) = true := by simp [h5]
          go_wp2
          go_ret
          exact ⟨ret_b HL6.out.symm, hbw⟩
end Go.Proofs.YtdmoknnnlfkfoaaGreatDoor

namespace Go.Proofs.YtdmoknnnlfkfoaaGreatDoor
open Go Go.RowKit
set_option linter.unusedVariables false
theorem Tryz.infoPt : (Tryz.prog.info? 86).map (fun i => (i.zero, i.size, i.bytes)) = some (some (.agg #[.nilFunc, .nilFunc, .nilFunc, .nilFunc, .nilFunc, .nilFunc]), 6, 48) := by kernel_rfl
def partsN (k : Int) (i : Nat) : List Nat := (List.range i).filter fun j => ofB j k
def psL (l : List Nat) : List Value := l.flatMap partL
theorem psL_append (l m : List Nat) : psL (l ++ m) = psL l ++ psL m := by simp [psL]
theorem partsN_yes {k : Int} {i : Nat} (h : ofB i k = true) : partsN k (i + 1) = partsN k i ++ [i] := by simp [partsN, List.range_succ, h]
theorem partsN_no {k : Int} {i : Nat} (h : ofB i k = false) : partsN k (i + 1) = partsN k i := by simp [partsN, List.range_succ, h]
theorem partsN_le (k : Int) (i : Nat) : (partsN k i).length ≤ i := by
  have := List.length_filter_le (fun j => ofB j k) (List.range i)
  rw [List.length_range] at this
  exact this
theorem rd_row {w : World} {b size n : Nat} {l : List Value} {T : TypeId} (h : w.heap[b]? = some (.cells l.toArray T (0, 0))) (hl : l.length = n * size) : Rd w (b + 1) size (some ⟨b, 0, none⟩) n l := by
  refine ⟨hl, fun _ => ⟨_, rfl, by simp, fun j x hx => ?_⟩⟩
  have e : (⟨b, 0, none⟩ : Addr).add j = ⟨b, j, none⟩ := by unfold Addr.add; split <;> simp_all
  rw [e, cell_of_row _ _ j _ _ _ h, ← hx]
  simp
def PsEnd (B : Nat) (l : List Nat) (w : World) (e : Ending) (w' : World) : Prop := ∃ A c, e = .returned (.slice A l.length c) ∧ w'.ownsRow B 86 6 (.slice A l.length c) l.length (psL l) ∧ Below w.heap.size w w'
set_option maxRecDepth 100000 in
set_option maxHeartbeats 3200000 in
theorem partsof_any (k : Int) (w : World) : Calls Tryz.prog 25 #[.int .i64 k] w (PsEnd w.heap.size (partsN k 6) w) := by
  obtain ⟨i0, hi, hz0, hz1, hz2⟩ := info_parts Tryz.infoPt
  have HQ : Hid (partsN k 0 = []) := rfl
  have PE : Hid (∀ (A : Option Addr) (n c : Nat) (W : World), n = (partsN k 6).length → W.ownsRow w.heap.size 86 6 (.slice A n c) n (psL (partsN k 6)) → Below w.heap.size w W → PsEnd w.heap.size (partsN k 6) w (.returned (.slice A n c)) W) := fun A n c W h1 h2 h3 => by subst h1; exact ⟨A, c, rfl, h2, h3⟩
  go_enter Tryz.func25, Tryz.ntmps25
  go_wp2_with fail
  refine (parts_any _).mono ?_
  rintro e w2 ⟨rfl, hb2⟩
  have HIX := Lib_hid (fun (i : Nat) (hi6 : i < 6) => index_part hi6)
  generalize partsA = pa at *
  go_wp2
  go_loopw [3, 7] (fun v z wr => ∃ (i n c : Nat) (A : Option Addr), v = .slice A n c ∧ z = .int .i64 i ∧ i ≤ 6 ∧ n ≤ i ∧ Hid (n = (partsN k i).length) ∧ wr.ownsRow w.heap.size 86 6 (.slice A n c) n (psL (partsN k i)) ∧ Below w.heap.size w wr) (fun _ z _ => 6 - (intOf z).toNat)
  case atStart => exact ⟨0, 0, 0, none, rfl, rfl, by omega, by omega, rfl, World.ownsRow_nil _ _ _ _, hb2⟩
  case round =>
    clear hb2
    obtain ⟨i, n, c, A, rfl, rfl, hi6, hn6, hn, hown, hbw⟩ := hrel
    by_cases hlt : i < 6
    · have hix := HIX.out i hlt
      have hco := call_of hlt
      have OF := of_any i hlt k
      have HPL : Hid (partL i = [.func (.func (mofF i)) #[] #[], .func (.func (memptyF i)) #[] #[], .func (.func (mputF i)) #[] #[], .func (.func (mtakeF i)) #[] #[], .func (.func (mtellF i)) #[] #[], .func (.func (mreadF i)) #[] #[]]) := rfl
      have hb2 := hbw.alloc hbw.size (.cells #[.func (.func (mofF i)) #[] #[], .func (.func (memptyF i)) #[] #[], .func (.func (mputF i)) #[] #[], .func (.func (mtakeF i)) #[] #[], .func (.func (mtellF i)) #[] #[], .func (.func (mreadF i)) #[] #[]] 86)
      have hp2 := heap_alloc_new wr (.cells #[.func (.func (mofF i)) #[] #[], .func (.func (memptyF i)) #[] #[], .func (.func (mputF i)) #[] #[], .func (.func (mtakeF i)) #[] #[], .func (.func (mtellF i)) #[] #[], .func (.func (mreadF i)) #[] #[]] 86)
      have ho2 := own_below hown (below_new wr (.cells #[.func (.func (mofF i)) #[] #[], .func (.func (memptyF i)) #[] #[], .func (.func (mputF i)) #[] #[], .func (.func (mtakeF i)) #[] #[], .func (.func (mtellF i)) #[] #[], .func (.func (mreadF i)) #[] #[]] 86)) (own_lt hown)
      generalize mofF i = f1 at *
      generalize memptyF i = f2 at *
      generalize mputF i = f3 at *
      generalize mtakeF i = f4 at *
      generalize mtellF i = f5 at *
      generalize mreadF i = f6 at *
      go_upto_region 5 with (fail)
      generalize wr.alloc (.cells #[.func (.func f1) #[] #[], .func (.func f2) #[] #[], .func (.func f3) #[] #[], .func (.func f4) #[] #[], .func (.func f5) #[] #[], .func (.func f6) #[] #[]] 86) = w3 at *
      have d0 : w3.cell? ⟨wr.heap.size, 0, none⟩ = some (.func (.func f1) #[] #[]) := cell_of_row w3 _ 0 _ _ _ hp2
      have d1 : w3.cell? ⟨wr.heap.size, 1, none⟩ = some (.func (.func f2) #[] #[]) := cell_of_row w3 _ 1 _ _ _ hp2
      have d2 : w3.cell? ⟨wr.heap.size, 2, none⟩ = some (.func (.func f3) #[] #[]) := cell_of_row w3 _ 2 _ _ _ hp2
      have d3 : w3.cell? ⟨wr.heap.size, 3, none⟩ = some (.func (.func f4) #[] #[]) := cell_of_row w3 _ 3 _ _ _ hp2
      have d4 : w3.cell? ⟨wr.heap.size, 4, none⟩ = some (.func (.func f5) #[] #[]) := cell_of_row w3 _ 4 _ _ _ hp2
      have d5 : w3.cell? ⟨wr.heap.size, 5, none⟩ = some (.func (.func f6) #[] #[]) := cell_of_row w3 _ 5 _ _ _ hp2
      cases ho : ofB i k with
      | true =>
        have HN : Hid (partsN k (i + 1) = partsN k i ++ [i]) := partsN_yes ho
        rw [ho] at OF
        have hm1 : n + 1 ≤ maxLen := by unfold maxLen; omega
        have hm2 : (n + 1) * 48 ≤ 140737488355328 := by omega
        have hb3 := hb2.alloc hb2.size (.cells #[.func (.func f1) #[] #[], .func (.func f2) #[] #[], .func (.func f3) #[] #[], .func (.func f4) #[] #[], .func (.func f5) #[] #[], .func (.func f6) #[] #[]] 86)
        have ho3 := own_below ho2 (below_new w3 (.cells #[.func (.func f1) #[] #[], .func (.func f2) #[] #[], .func (.func f3) #[] #[], .func (.func f4) #[] #[], .func (.func f5) #[] #[], .func (.func f6) #[] #[]] 86)) (own_lt ho2)
        have hr3 := rd_row (size := 6) (n := 1) (l := [.func (.func f1) #[] #[], .func (.func f2) #[] #[], .func (.func f3) #[] #[], .func (.func f4) #[] #[], .func (.func f5) #[] #[], .func (.func f6) #[] #[]]) (heap_alloc_new w3 (.cells #[.func (.func f1) #[] #[], .func (.func f2) #[] #[], .func (.func f3) #[] #[], .func (.func f4) #[] #[], .func (.func f5) #[] #[], .func (.func f6) #[] #[]] 86)) rfl
        have h1c : ∀ u ∈ ([.func (.func f1) #[] #[], .func (.func f2) #[] #[], .func (.func f3) #[] #[], .func (.func f4) #[] #[], .func (.func f5) #[] #[], .func (.func f6) #[] #[]] : List Value), u.oneCell' = true := by
          intro u hu
          simp only [List.mem_cons, List.not_mem_nil, or_false] at hu
          rcases hu with rfl | rfl | rfl | rfl | rfl | rfl <;> rfl
        clear ho hown hp2 ho2
        go_wp2_with fail
        refine (OF _).mono ?_
        rintro e w4 ⟨rfl, rfl⟩
        go_wp2_with (at_builtin; (refine wpList_app rfl _ _ 78 rfl w.heap.size 86 i0 (.agg #[.nilFunc, .nilFunc, .nilFunc, .nilFunc, .nilFunc, .nilFunc]) 6 48 Tryz.underlying78 hi hz0 hz1 hz2 rfl (by decide) (.slice A n c) n _ rfl ho3 _ _ 1 1 _ rfl hr3 h1c hm1 hm2 hb3.size ?_); intro v' w5 hown' hst; obtain ⟨A', c', rfl, _⟩ := own_form hown')
        go_roundw
        case rel =>
          have hps : psL (partsN k i ++ [i]) = psL (partsN k i) ++ [.func (.func f1) #[] #[], .func (.func f2) #[] #[], .func (.func f3) #[] #[], .func (.func f4) #[] #[], .func (.func f5) #[] #[], .func (.func f6) #[] #[]] := by
            rw [psL_append, show psL [i] = partL i by simp [psL], HPL.out]
          exact ⟨i + 1, n + 1, c', A', rfl, by go_num, by omega, by omega, Lib_hid (by rw [HN.out, List.length_append, ← hn.out]; rfl), by rw [HN.out, hps]; exact hown', hb3.trans (hst.below hb3.size fun g hg => own_ge ho3 g hg)⟩
        case measure => simp [intOf]; omega
      | false =>
        have HN : Hid (partsN k (i + 1) = partsN k i) := partsN_no ho
        rw [ho] at OF
        clear ho hown hp2
        go_wp2_with fail
        refine (OF _).mono ?_
        rintro e w4 ⟨rfl, rfl⟩
        clear d0 d1 d2 d3 d4 d5
        go_wp2
        go_roundw
        case rel => exact ⟨i + 1, n, c, A, rfl, by go_num, by omega, by omega, Lib_hid (by rw [HN.out]; exact hn.out), by rw [HN.out]; exact ho2, hb2⟩
        case measure => simp [intOf]; omega
    · obtain rfl : i = 6 := by omega
      go_wp2
      go_ret
      exact PE.out A n c _ hn.out hown hbw
end Go.Proofs.YtdmoknnnlfkfoaaGreatDoor

namespace Go.Proofs.YtdmoknnnlfkfoaaGreatDoor
open Go Go.RowKit
set_option linter.unusedVariables false
def us (l : List Nat) : List Value := l.map fun (n : Nat) => Value.int .u64 (n : Int)
theorem us_length (l : List Nat) : (us l).length = l.length := by simp [us]
end Go.Proofs.YtdmoknnnlfkfoaaGreatDoor
