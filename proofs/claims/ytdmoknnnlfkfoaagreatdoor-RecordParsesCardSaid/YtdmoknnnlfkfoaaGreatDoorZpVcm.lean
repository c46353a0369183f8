/-
  Two values that calls made, put into two boxes, in any order: what holds on the way. No program is named here.
  Layer 5: the program's payload: numbers, versions, whether an entry matches, predicates, all by their contracts.
  Layer 5: the program's payload: entries.
  Layer 5: the document's entries of a payload.
  Layer 5: versions: Cmp on both sides, docs.Version.
-/
import Derived.Test.YtdmoknnnlfkfoaaGreatDoorZpIny
import Derived.Test.YtdmoknnnlfkfoaaGreatDoorZpTko
import Derived.Test.YtdmoknnnlfkfoaaGreatDoorZpNums
import Derived.Test.YtdmoknnnlfkfoaaGreatDoorZpTtd
import Derived.Test.YtdmoknnnlfkfoaaGreatDoorZpVpw
import Derived.Test.YtdmoknnnlfkfoaaGreatDoorZpVze
import Derived.StillTailTactics
import Derived.Test.YtdmoknnnlfkfoaaGreatDoorZpUsl
import Derived.Test.YtdmoknnnlfkfoaaGreatDoorZpTrw
import Derived.Deep.RegionHeld3

namespace Go.Proofs.YtdmoknnnlfkfoaaGreatDoor
open Go Go.RowKit
set_option linter.unusedVariables false
structure RowSet (w w' : World) (g : Nat) (arr : Array Value) (E : TypeId) : Prop where
  os : w'.os = w.os
  tape : w'.tape = w.tape
  output : w'.output = w.output
  size : w'.heap.size = w.heap.size
  row : w'.heap[g]? = some (.cells arr E (0, 0))
  other : ∀ k, k ≠ g → w'.heap[k]? = w.heap[k]?
theorem RowSet.below {w0 w w' : World} {g B : Nat} {arr : Array Value} {E : TypeId} (h : RowSet w w' g arr E) (hb : Below B w0 w) (hg : B ≤ g) : Below B w0 w' :=
  ⟨h.os.trans hb.os, h.tape.trans hb.tape, h.output.trans hb.output, by rw [h.size]; exact hb.size, fun k hk => (h.other k (by omega)).trans (hb.block k hk)⟩
theorem rowset2 {w : World} {g : Nat} {E : TypeId} {x0 x1 : Value} (y0 y1 : Value) (h : w.heap[g]? = some (.cells #[x0, x1] E (0, 0))) : RowSet w ((w.setCell ⟨g, 0, none⟩ y0).setCell ⟨g, 1, none⟩ y1) g #[y0, y1] E :=
  ⟨rfl, rfl, rfl, by simp [World.setCell], heap_setCell_same _ g 1 _ E y1 (heap_setCell_same w g 0 _ E y0 h), fun k hk => by rw [Below.heap_setCell _ ⟨g, 1, none⟩ _ k hk, Below.heap_setCell _ ⟨g, 0, none⟩ _ k hk]⟩
structure SL6 where
  p : Nat
  c : Nat
  q : Nat
  d : Nat
  x : Nat
  y : Nat
structure SL6.ok (s : SL6) (n : Nat) : Prop where
  pc : s.p ≠ s.c
  pq : s.p ≠ s.q
  pd : s.p ≠ s.d
  px : s.p ≠ s.x
  py : s.p ≠ s.y
  cq : s.c ≠ s.q
  cd : s.c ≠ s.d
  cx : s.c ≠ s.x
  cy : s.c ≠ s.y
  qd : s.q ≠ s.d
  qx : s.q ≠ s.x
  qy : s.q ≠ s.y
  dx : s.d ≠ s.x
  dy : s.d ≠ s.y
  xy : s.x ≠ s.y
  pn : s.p < n
  cn : s.c < n
  qn : s.q < n
  dn : s.d < n
  xn : s.x < n
  yn : s.y < n
structure Two8 (w3 : World) (s : SL6) (pv qv : Value) (n : Nat) (E : TypeId) (M N : Nat → Nat → Array Value → World → Prop) (a0 : Act) (L : Nat → Bool) (a : Act) (w : World) (g9 g10 l1 h1 l2 h2 : Nat) (u r : Array Value) : Prop where
  size : a.tmps.size = a0.tmps.size
  defers : a.defers = a0.defers
  other : ∀ k, k ≠ s.p → k ≠ s.c → k ≠ s.q → k ≠ s.d → k ≠ s.x → k ≠ s.y → a.tmps.getD k undef = a0.tmps.getD k undef
  below : Below w3.heap.size w3 w
  o0 : L 0 = true → a.tmps.getD s.p undef = pv
  o2 : L 2 = true → a.tmps.getD s.q undef = qv
  o1 : L 1 = true → a.tmps.getD s.c undef = .agg u ∧ M l1 h1 u w ∧ w3.heap.size ≤ l1 ∧ h1 ≤ w.heap.size
  o3 : L 3 = true → a.tmps.getD s.d undef = .agg r ∧ N l2 h2 r w ∧ w3.heap.size ≤ l2 ∧ h2 ≤ w.heap.size
  o4 : L 4 = true → a.tmps.getD s.x undef = .pointer (some ⟨g9, 0, none⟩) ∧ w3.heap.size ≤ g9 ∧ ∃ xs : Array Value, xs.size = n ∧ w.heap[g9]? = some (.cells xs E (0, 0))
  o5 : L 5 = true → a.tmps.getD s.y undef = .pointer (some ⟨g10, 0, none⟩) ∧ w3.heap.size ≤ g10 ∧ ∃ xs : Array Value, xs.size = n ∧ w.heap[g10]? = some (.cells xs E (0, 0))
  d14 : L 1 = true → L 4 = true → g9 < l1 ∨ h1 ≤ g9
  d34 : L 3 = true → L 4 = true → g9 < l2 ∨ h2 ≤ g9
  d15 : L 1 = true → L 5 = true → g10 < l1 ∨ h1 ≤ g10
  d35 : L 3 = true → L 5 = true → g10 < l2 ∨ h2 ≤ g10
  d45 : L 4 = true → L 5 = true → g9 ≠ g10
  o6 : L 6 = true → L 4 = true ∧ L 1 = true ∧ w.heap[g9]? = some (.cells u E (0, 0))
  o7 : L 7 = true → L 5 = true ∧ L 3 = true ∧ w.heap[g10]? = some (.cells r E (0, 0))
def Within (M : Nat → Nat → Array Value → World → Prop) : Prop := ∀ (l h : Nat) (v : Array Value) (w w' : World), (∀ k, l ≤ k → k < h → w'.heap[k]? = w.heap[k]?) → M l h v w → M l h v w'
section
variable {w3 : World} {s : SL6} {pv qv : Value} {n : Nat} {E : TypeId} {M N : Nat → Nat → Array Value → World → Prop} {a0 : Act} {L : Nat → Bool} {a : Act} {w w' : World} {g9 g10 l1 h1 l2 h2 : Nat} {u r : Array Value}
theorem lt_of_blk {W : World} {g : Nat} {o : Obj} (h : W.heap[g]? = some o) : g < W.heap.size := (Array.getElem?_eq_some_iff.1 h).1
theorem Two8.start (p q : Array Value) : Two8 w3 s pv qv n E M N a0 (fun _ => false) a0 { w3 with drawn := w3.drawn + 1 } 0 0 0 0 0 0 p q :=
  ⟨rfl, rfl, fun _ _ _ _ _ _ _ => rfl, ⟨rfl, rfl, rfl, Nat.le_refl _, fun _ _ => rfl⟩, by simp, by simp, by simp, by simp, by simp, by simp, by simp, by simp, by simp, by simp, by simp, by simp, by simp⟩
theorem Two8.grow (h : Two8 w3 s pv qv n E M N a0 L a w g9 g10 l1 h1 l2 h2 u r) (hM : Within M) (hN : Within N) (hb : Below w.heap.size w w') : Two8 w3 s pv qv n E M N a0 L a w' g9 g10 l1 h1 l2 h2 u r := by
  have kp : ∀ {g : Nat} {o : Obj}, w.heap[g]? = some o → w'.heap[g]? = some o := fun {g o} e => (hb.block g (lt_of_blk e)).trans e
  refine ⟨h.size, h.defers, h.other, h.below.trans (hb.mono h.below.size), h.o0, h.o2, fun k => ?_, fun k => ?_, fun k => ?_, fun k => ?_, h.d14, h.d34, h.d15, h.d35, h.d45, fun k => ?_, fun k => ?_⟩
  · obtain ⟨e1, e3, e4, e5⟩ := h.o1 k; exact ⟨e1, hM _ _ _ _ _ (fun k _ k2 => hb.block k (Nat.lt_of_lt_of_le k2 e5)) e3, e4, Nat.le_trans e5 hb.size⟩
  · obtain ⟨e1, e3, e4, e5⟩ := h.o3 k; exact ⟨e1, hN _ _ _ _ _ (fun k _ k2 => hb.block k (Nat.lt_of_lt_of_le k2 e5)) e3, e4, Nat.le_trans e5 hb.size⟩
  · obtain ⟨e1, e2, xs, e3, e4⟩ := h.o4 k; exact ⟨e1, e2, xs, e3, kp e4⟩
  · obtain ⟨e1, e2, xs, e3, e4⟩ := h.o5 k; exact ⟨e1, e2, xs, e3, kp e4⟩
  · obtain ⟨e1, e2, e3⟩ := h.o6 k; exact ⟨e1, e2, kp e3⟩
  · obtain ⟨e1, e2, e3⟩ := h.o7 k; exact ⟨e1, e2, kp e3⟩
theorem Two8.store (hM : Within M) (hN : Within N) (h : Two8 w3 s pv qv n E M N a0 L a w g9 g10 l1 h1 l2 h2 u r) {g : Nat} {arr : Array Value} (hr : RowSet w w' g arr E) (hn : arr.size = n) (hg3 : w3.heap.size ≤ g) (h1g : L 1 = true → g < l1 ∨ h1 ≤ g) (h3g : L 3 = true → g < l2 ∨ h2 ≤ g)
    (h6 : L 6 = true → g ≠ g9) (h7 : L 7 = true → g ≠ g10) : Two8 w3 s pv qv n E M N a0 L a w' g9 g10 l1 h1 l2 h2 u r := by
  refine ⟨h.size, h.defers, h.other, hr.below h.below hg3, h.o0, h.o2, fun k => ?_, fun k => ?_, fun k => ?_, fun k => ?_, h.d14, h.d34, h.d15, h.d35, h.d45, fun k => ?_, fun k => ?_⟩
  · obtain ⟨e1, e3, e4, e5⟩ := h.o1 k
    exact ⟨e1, hM _ _ _ _ _ (fun j k1 k2 => hr.other j (by have := h1g k; omega)) e3, e4, by rw [hr.size]; exact e5⟩
  · obtain ⟨e1, e3, e4, e5⟩ := h.o3 k
    exact ⟨e1, hN _ _ _ _ _ (fun j k1 k2 => hr.other j (by have := h3g k; omega)) e3, e4, by rw [hr.size]; exact e5⟩
  · obtain ⟨e1, e2, xs, e3, e4⟩ := h.o4 k
    by_cases e : g9 = g
    · subst e; exact ⟨e1, e2, _, hn, hr.row⟩
    · exact ⟨e1, e2, xs, e3, (hr.other _ e).trans e4⟩
  · obtain ⟨e1, e2, xs, e3, e4⟩ := h.o5 k
    by_cases e : g10 = g
    · subst e; exact ⟨e1, e2, _, hn, hr.row⟩
    · exact ⟨e1, e2, xs, e3, (hr.other _ e).trans e4⟩
  · obtain ⟨e1, e2, e3⟩ := h.o6 k; exact ⟨e1, e2, (hr.other _ (fun e => h6 k e.symm)).trans e3⟩
  · obtain ⟨e1, e2, e3⟩ := h.o7 k; exact ⟨e1, e2, (hr.other _ (fun e => h7 k e.symm)).trans e3⟩
end
end Go.Proofs.YtdmoknnnlfkfoaaGreatDoor

namespace Go.Proofs.YtdmoknnnlfkfoaaGreatDoor
open Go Go.RowKit
set_option linter.unusedVariables false
theorem read5_any (B : Nat) (A : Option Addr) (n c : Nat) (l : List Nat) (w : World) (h : Rd w B 1 A n (bs l)) (hb : ∀ x ∈ l, x < 256) (hn : n ≤ 100000) (hB : B ≤ w.heap.size) :
    Calls Tryz.prog 24 #[.slice A n c] w fun en w' => ∃ g A' c', en = .returned (.pointer (some ⟨g, 0, none⟩)) ∧ w.heap.size ≤ g ∧ Rr 138 w' g A' l.length c' l 0 0 ∧ Below w.heap.size w w' ∧ ∀ ad, A' = some ad → 0 < l.length → w.heap.size ≤ ad.block := by
  have C := clone_any B A n c l w h (by omega) hB
  have hl := h.count
  subst hl
  go_enter Tryz.func24, Tryz.ntmps24
  go_wp2_with (go_at_call 58; refine C.mono ?_; rintro e w1 ⟨A1, c1, rfl, ho1, hb1⟩)
  go_ret
  have hc := own_cap ho1
  exact ⟨w1.heap.size, A1, c1, rfl, hb1.size, ⟨heap_alloc_new w1 _, (Rd.own ho1).alloc (Nat.le_refl _) _, hc, hb, hn, Nat.zero_le _, by omega⟩, hb1.alloc hb1.size _, fun ad e hn => by
    obtain ⟨gg, cap, hv, hgg, hlt⟩ := ho1.form hn
    have hA : A1 = some ⟨gg, 0, none⟩ := by injection hv
    rw [hA] at e
    injection e with e
    subst e
    have := own_ge ho1 gg (by rw [hA]; rfl)
    exact this⟩
theorem PlS.aside {g h n c a e q : Nat} {A : Option Addr} {l : List Nat} {bad : Bool} {w w' : World} {arr : Array Value} {E : TypeId} (p : PlS g h A n c l a e bad w) (r : RowSet w w' q arr E) (h1 : g < q) (h2 : h < q) : PlS g h A n c l a e bad w' :=
  ⟨(r.other g (by omega)).trans p.box, ⟨(r.other h (by omega)).trans p.rd.blk, p.rd.rd.keep fun x hx => World.cell?_of_block (r.other x.block (by omega)), p.rd.nc, p.rd.b8, p.rd.len, p.rd.place, p.rd.err⟩, p.lt⟩
theorem rowset4 {w : World} {g : Nat} {E : TypeId} {x0 x1 x2 x3 : Value} (y0 y1 y2 y3 : Value) (h : w.heap[g]? = some (.cells #[x0, x1, x2, x3] E (0, 0))) : RowSet w (put4 w g y0 y1 y2 y3) g #[y0, y1, y2, y3] E :=
  ⟨rfl, rfl, rfl, put4_size w g _ _ _ _, put4_row h _ _ _ _, fun k hk => put4_else w hk _ _ _ _⟩
instance goodDec (e : Nat) (bad : Bool) : Decidable (GoodB e bad) := by unfold GoodB; exact inferInstance
section
variable {g h n c a e : Nat} {A : Option Addr} {l : List Nat} {bad : Bool} {w : World}
theorem pnum_any (p : PlS g h A n c l a e bad w) : Calls Tryz.prog 110 #[.pointer (some ⟨h, 0, none⟩)] w fun en w' =>
    ∃ v a' e' : Nat, en = .returned (.int .u64 (v : Int)) ∧ v < 18446744073709551616 ∧ PlS g h A n c l a' e' bad w' ∧ RStp w w' h ∧ Took (numT l a) e bad v a' e' bad := by
  obtain ⟨⟨a', e', v⟩, hS⟩ : ∃ x, numR l a e = x := ⟨_, rfl⟩
  have hle := numR_le p.rd.b8 p.rd.place p.rd.err hS
  refine (number_any h A n c a e l w p.rd a' e' v hS).mono ?_
  rintro en w' ⟨rfl, hr⟩
  exact ⟨v, a', e', rfl, by omega, p.step hr, hr.2, num_took hS bad⟩
theorem perr_any (p : PlS g h A n c l a e bad w) : Calls Tryz.prog 60 #[.pointer (some ⟨h, 0, none⟩)] w fun en w' => en = .returned (.int .i64 (e : Int)) ∧ w = w' := err_any h A n c a e l w p.rd
set_option maxRecDepth 100000 in
set_option maxHeartbeats 1600000 in
theorem pgood_any (p : PlS g h A n c l a e bad w) : Calls Tryz.prog 26 #[.pointer (some ⟨g, 0, none⟩)] w fun en w' => en = .returned (.bool (decide (GoodB e bad))) ∧ w' = w := by
  obtain ⟨c0, c1, -, -⟩ := p.cells
  have HE := perr_any p
  have HG : Hid (decide (GoodB e bad) = (!bad && decide (e = 0))) := by
    unfold Hid GoodB
    rw [Bool.eq_iff_iff]
    cases bad <;> simp
  have hee : ((e : Int) == 0) = decide (e = 0) := by rw [Bool.eq_iff_iff]; simp
  generalize decide (GoodB e bad) = z at *
  clear p
  cases bad with
  | true =>
    have hz : z = false := HG.out
    go_enter Tryz.func26, Tryz.ntmps26
    go_wp2
    go_ret
    exact ⟨ret_b hz.symm, rfl⟩
  | false =>
    have hz : z = decide (e = 0) := HG.out
    go_enter Tryz.func26, Tryz.ntmps26
    go_wp2_with fail
    refine HE.mono ?_
    rintro en w' ⟨rfl, rfl⟩
    go_wp2
    go_ret
    exact ⟨ret_b (by rw [hz]), rfl⟩
set_option maxRecDepth 100000 in
set_option maxHeartbeats 3200000 in
theorem pver_any (p : PlS g h A n c l a e bad w) : Calls Tryz.prog 125 #[.pointer (some ⟨g, 0, none⟩)] w fun en w' =>
    ∃ v1 v2 a' e' : Nat, en = .returned (.agg #[.int .u64 (v1 : Int), .int .u64 (v2 : Int)]) ∧ (v1 < 18446744073709551616 ∧ v2 < 18446744073709551616) ∧ PlS g h A n c l a' e' bad w' ∧ Grow2 w w' g h ∧ Took (verT l a) e bad (v1, v2) a' e' bad := by
  have hsz : (Tryz.prog.info? 41).map (·.size) = some 2 := by kernel_rfl
  have hq1 := heap_alloc_new w (.cells #[.int .u64 0, .int .u64 0] 41)
  have hn1 := below_new w (.cells #[.int .u64 0, .int .u64 0] 41)
  have p1 := p.kept hn1
  have hgl := p.gl
  have hhg := p.lt
  go_enter Tryz.func125, Tryz.ntmps125
  go_upto_region 1 with (fail)
  generalize w.alloc (.cells #[.int .u64 0, .int .u64 0] 41) = w1 at *
  obtain ⟨c0, -, -, -⟩ := p1.cells
  have hs1 := lt_of_block hq1
  go_region_held3 (fun W => W.cell? ⟨g, 0, none⟩ = some (.pointer (some ⟨h, 0, none⟩))) (first | exact c0 | exact (World.cell?_of_block (by rw [Below.heap_setCell _ ⟨w.heap.size, 1, none⟩ _ g (by show g ≠ w.heap.size; omega), Below.heap_setCell _ ⟨w.heap.size, 0, none⟩ _ g (by show g ≠ w.heap.size; omega)])).trans p3.cells.1 | exact p3.cells.1 | exact p2.cells.1)
    ((first | (go_at_call 110; have hq := ht2; ((with_reducible refine (pnum_any p2').mono ?_); rintro en w3 ⟨v2, a2, e2, rfl, hv2, p3, hs3, ht3⟩; have hq3 := (hs3.block w.heap.size (lt_of_block hq2) (by omega)).trans hq2; have d0 := cell_of_row w3 w.heap.size 0 _ _ _ hq3; have d1 := cell_of_row w3 w.heap.size 1 _ _ _ hq3; have z0 := frozen_of_row w3 w.heap.size 0 _ _ hq3; have z1 := frozen_of_row w3 w.heap.size 1 _ _ hq3)) | (go_at_call 110; ((with_reducible refine (pnum_any (p1.kept (by exact below_like4 (Below.refl _ _) rfl rfl rfl rfl))).mono ?_); rintro en w2 ⟨v1, a1, e1, rfl, hv1, p2, hs2, ht2⟩; have p2' := p2; have hq2 := (hs2.block w.heap.size (by exact hs1) (by omega)).trans (show _ = _ from hq1)))))
  all_goals
    have hqf := rowset2 (.int .u64 (v1 : Int)) (.int .u64 (v2 : Int)) hq3
    have p4 : PlS g h A n c l a2 e2 bad ((w3.setCell ⟨w.heap.size, 0, none⟩ (.int .u64 (v1 : Int))).setCell ⟨w.heap.size, 1, none⟩ (.int .u64 (v2 : Int))) := p3.aside hqf (by omega) (by omega)
    have hG : Grow2 w ((w3.setCell ⟨w.heap.size, 0, none⟩ (.int .u64 (v1 : Int))).setCell ⟨w.heap.size, 1, none⟩ (.int .u64 (v2 : Int))) g h := by
      have k1 := (Grow2.ofB hn1 (a := g) (b := h)).trans ((show Grow2 w1 w2 g h from ⟨hs2.os, hs2.tape, hs2.output, hs2.size, fun k k1 _ k3 => hs2.block k k1 k3⟩).trans (hs3.grow2 g))
      exact ⟨hqf.os.trans k1.os, hqf.tape.trans k1.tape, hqf.output.trans k1.output, by rw [hqf.size]; exact k1.size, fun k h1 h2 h3 => (hqf.other k (by omega)).trans (k1.block k h1 h2 h3)⟩
    have hT : Took (verT l a) e bad (v1, v2) a2 e2 bad := by
      unfold verT
      refine Took.bind ht2 ?_
      exact Took.map (g := fun y : Nat × Nat => ((v1, y.1), y.2)) (fun v => (v1, v)) (fun _ _ => rfl) ht3
    have HF := Lib_hid (And.intro p4 (And.intro hG hT))
    have hrow := hqf.row
    clear p3 p2 p2' ht2 ht3 hs2 hs3 hq2 hq3 hq p1 hqf p4 hG hT d0 d1 z0 z1
    go_wp2
    exact bodyPost_ret (results_cell_row (p := 2) (ty := 41) rfl _ _ w.heap.size 41 #[.int .u64 (v1 : Int), .int .u64 (v2 : Int)] (0, 0) _ rfl hrow Tryz.underlying41 rfl hsz) rfl ⟨v1, v2, a2, e2, rfl, ⟨hv1, hv2⟩, HF.out.1, HF.out.2.1, HF.out.2.2⟩
set_option maxRecDepth 100000 in
set_option maxHeartbeats 1600000 in
theorem pmatch_any (p : PlS g h A n c l a e bad w) : Calls Tryz.prog 184 #[.pointer (some ⟨g, 0, none⟩)] w fun en w' =>
    ∃ (m : Bool) (a' e' : Nat) (bad' : Bool), en = .returned (.bool m) ∧ PlS g h A n c l a' e' bad' w' ∧ Grow2 w w' g h ∧ Took (matT l a) e bad m a' e' bad' := by
  obtain ⟨c0, c1, -, -⟩ := p.cells
  obtain ⟨⟨a', e', m⟩, hS⟩ : ∃ x, rawS l a e 1 = x := ⟨_, rfl⟩
  have hT := raw_took hS p.rd.place bad
  have RW := raw_any h A n c a e l 1 w p.rd (by omega)
  rw [hS] at RW
  have HP := Lib_hid p
  clear p c1
  go_enter Tryz.func184, Tryz.ntmps184
  go_wp2_with fail
  refine RW.mono ?_
  rintro en w1 ⟨A1, c1, rfl, ho1, hr1⟩
  have p1 := HP.out.step hr1
  have hg1 := hr1.2.grow2 g
  obtain ⟨-, d1, -, y1⟩ := p1.cells
  have hrd1 := Rd.own ho1
  clear RW c0 HP hr1 hS
  rcases hT with ⟨hm, hb, ht⟩ | ⟨cc, hm, he1, he2, hcc, ht1, ht2⟩
  · subst hm
    have HF : Hid (PlS g h A n c l a' e' true (w1.setCell ⟨g, 1, none⟩ (.bool true)) ∧ Grow2 w (w1.setCell ⟨g, 1, none⟩ (.bool true)) g h ∧ Took (matT l a) e bad false a' e' true) := ⟨p1.spoilt true, hg1.trans (Grow2.set w1 g h 1 _), ht⟩
    clear p1 hg1 ht hb hrd1 ho1
    go_wp2
    go_ret
    exact ⟨false, a', e', true, rfl, HF.out⟩
  · subst hm
    have hcell := hrd1.byte (k := 0) (by show 0 < 1; omega)
    obtain ⟨ad, hA, -, hc0⟩ := hcell
    subst hA
    obtain ⟨gg, cap, hv, -, -⟩ := ho1.form (by show 0 < 1; omega)
    have hag : ad = ⟨gg, 0, none⟩ := by injection hv with hv; injection hv
    subst hag
    have hc0 : w1.cell? ⟨gg, 0, none⟩ = some (.int .u8 (cc : Int)) := hc0
    by_cases h1 : 1 < cc
    · have h1i : (1 : Int) < (cc : Int) := by omega
      have HF : Hid (PlS g h A n c l a' e' true (w1.setCell ⟨g, 1, none⟩ (.bool true)) ∧ Grow2 w (w1.setCell ⟨g, 1, none⟩ (.bool true)) g h ∧ Took (matT l a) e bad false a' e' true) := ⟨p1.spoilt true, hg1.trans (Grow2.set w1 g h 1 _), ht1 h1⟩
      clear p1 hg1 ht1 ht2 hrd1 ho1 hv hcc he1 he2 h1
      go_wp2
      go_ret
      exact ⟨false, a', e', true, rfl, HF.out⟩
    · have h1i : ¬ (1 : Int) < (cc : Int) := by omega
      have HF : Hid (PlS g h A n c l a' e' bad w1 ∧ Grow2 w w1 g h ∧ Took (matT l a) e bad (cc == 1) a' e' bad) := ⟨p1, hg1, ht2 (by omega)⟩
      have HB : Hid (((cc : Int) == 1) = (cc == 1)) := Lib_hid (by rw [Bool.eq_iff_iff]; simp; omega)
      clear p1 hg1 ht1 ht2 hrd1 ho1 hv hcc he1 he2 h1
      go_wp2
      go_ret
      exact ⟨cc == 1, a', e', bad, ret_b HB.out, HF.out⟩
theorem pparse4_any (w : World) (B : Nat) (A2 : Option Addr) (m c2 : Nat) (s : List Nat) (h1 : Rd w B 1 A2 m (bs s)) (hB : B ≤ w.heap.size) (hb8 : ∀ x ∈ s, x < 256) (hnc : m ≤ c2 ∧ c2 ≤ 9223372036854775807) :
    Calls Tryz.prog 178 #[.slice A2 m c2] w (AnsEnd 44 (ansT (parseT s)) w) :=
  pParse_any s A2 m c2 h1.count w fun W hW => pTakeO_any A2 m c2 (tnode_any A2 m c2 s hb8 hnc 8 (Nat.le_refl _)) 0 B W (h1.below (hW.mono hB)) (Nat.le_trans hB hW.size)
set_option maxRecDepth 100000 in
set_option maxHeartbeats 3200000 in
theorem ppred_any (p : PlS g h A n c l a e bad w) : Calls Tryz.prog 141 #[.pointer (some ⟨g, 0, none⟩)] w fun en w' =>
    ∃ (u : V) (a' e' : Nat) (bad' : Bool), en = .returned u.val ∧ Lies w' w.heap.size w'.heap.size u ∧ Shp 44 w' w.heap.size u ∧ PlS g h A n c l a' e' bad' w' ∧ Grow2 w w' g h ∧ Took ((txtT l a).bind fun x => (parseT x.1).map fun t => (t, x.2)) e bad u.abs a' e' bad' := by
  obtain ⟨c0, -, -, -⟩ := p.cells
  have hsz : (Tryz.prog.info? 44).map (·.size) = some 4 := by kernel_rfl
  have hq1 := heap_alloc_new w (.cells #[.int .i64 0, .int .u64 0, .int .u64 0, .slice none 0 0] 44)
  have hn1 := below_new w (.cells #[.int .i64 0, .int .u64 0, .int .u64 0, .slice none 0 0] 44)
  have p1 := p.kept hn1
  have hgl := p.gl
  have hhg := p.lt
  obtain ⟨⟨a', e', s⟩, hS⟩ : ∃ x, textS l a e = x := ⟨_, rfl⟩
  have hT := text_took hS bad
  have hb8 : ∀ x ∈ s, x < 256 := by
    intro x hx
    unfold textS at hS
    split at hS
    · injection hS with _ hS; injection hS with _ hS; rw [← hS] at hx; cases hx
    · split at hS
      · injection hS with _ hS; injection hS with _ hS; rw [← hS] at hx; cases hx
      · injection hS with _ hS; injection hS with _ hS; rw [← hS] at hx; exact p.rd.b8 x (List.mem_of_mem_drop (List.mem_of_mem_take hx))
  have TX := text_any h A n c a e l (w.alloc (.cells #[.int .i64 0, .int .u64 0, .int .u64 0, .slice none 0 0] 44)) p1.rd
  rw [hS] at TX
  have HB8 := Lib_hid hb8
  clear hS hb8 p c0
  go_enter Tryz.func141, Tryz.ntmps141
  go_upto_region 1 with (fail)
  generalize w.alloc (.cells #[.int .i64 0, .int .u64 0, .int .u64 0, .slice none 0 0] 44) = w1 at *
  obtain ⟨c0, -, -, -⟩ := p1.cells
  have hs1 := lt_of_block hq1
  go_wp2_with fail
  refine TX.mono ?_
  rintro en w2 ⟨A2, c2, rfl, ho2, hr2⟩
  have p2 := p1.step hr2
  have hq2 := (hr2.2.block w.heap.size hs1 (by omega)).trans hq1
  have hG2 : Grow2 w w2 g h := (Grow2.ofB hn1 (a := g) (b := h)).trans (hr2.2.grow2 g)
  have PP := pparse4_any w2 _ A2 s.length c2 s (Rd.own ho2) (Nat.le_refl _) HB8.out (own_cap ho2)
  have hs2 := lt_of_block hq2
  clear TX c0 p1 hr2 ho2 hq1 hn1
  go_wp2_with fail
  refine PP.mono ?_
  rintro en w3 ⟨u, rfl, hua, huL, huS, hb3⟩
  have p3 := p2.kept hb3
  have hq3 := (hb3.block _ hs2).trans hq2
  have hG3 := hG2.trans (Grow2.ofB hb3 (a := g) (b := h))
  have hs3 := hb3.size
  have hq4 := heap_alloc_new w3 (.cells #[.int .i64 u.kind, .int .u64 (u.a : Int), .int .u64 (u.b : Int), u.sl] 44)
  have hn4 := below_new w3 (.cells #[.int .i64 u.kind, .int .u64 (u.a : Int), .int .u64 (u.b : Int), u.sl] 44)
  have p4 := p3.kept hn4
  have hq3b := (hn4.block _ (lt_of_block hq3)).trans hq3
  have hG4 := hG3.trans (Grow2.ofB hn4 (a := g) (b := h))
  have hL4 := huL.under hn4
  have hS4 := huS.under (hn4.mono (Nat.le_refl _))
  have hs4 : (w3.alloc (.cells #[.int .i64 u.kind, .int .u64 (u.a : Int), .int .u64 (u.b : Int), u.sl] 44)).heap.size > w3.heap.size := by simp
  have HAN : Hid ((parseT s = some u.abs ∧ (ansT (parseT s)).2 = 0) ∨ (parseT s = none ∧ (ansT (parseT s)).2 = 40)) := by
    unfold Hid
    cases hp : parseT s with
    | none => exact .inr ⟨rfl, rfl⟩
    | some t => rw [hp] at hua; exact .inl ⟨by rw [hua]; rfl, rfl⟩
  have HFIN : Hid (∀ (W W' : World) (bad' : Bool), PlS g h A n c l a' e' bad' W → Grow2 w W g h → (∀ k, w2.heap.size ≤ k → k < w3.heap.size → W.heap[k]? = w3.heap[k]?) → w3.heap.size ≤ W.heap.size → W.heap[w.heap.size]? = some (.cells #[.int .i64 0, .int .u64 0, .int .u64 0, .slice none 0 0] 44 (0, 0)) →
      RowSet W W' w.heap.size #[.int .i64 u.kind, .int .u64 (u.a : Int), .int .u64 (u.b : Int), u.sl] 44 → Took ((txtT l a).bind fun x => (parseT x.1).map fun t => (t, x.2)) e bad u.abs a' e' bad' →
      ∃ (x : V) (a' e' : Nat) (bad' : Bool), Ending.returned (.agg #[.int .i64 u.kind, .int .u64 (u.a : Int), .int .u64 (u.b : Int), u.sl]) = .returned x.val ∧ Lies W' w.heap.size W'.heap.size x ∧ Shp 44 W' w.heap.size x ∧ PlS g h A n c l a' e' bad' W' ∧ Grow2 w W' g h ∧ Took ((txtT l a).bind fun x => (parseT x.1).map fun t => (t, x.2)) e bad x.abs a' e' bad') := by
    intro W W' bad' k1 k2 k3 k4 k5 k6 k7
    refine ⟨u, a', e', bad', rfl, ?_, ?_, k1.aside k6 (by omega) (by omega), ⟨k6.os.trans k2.os, k6.tape.trans k2.tape, k6.output.trans k2.output, by rw [k6.size]; exact k2.size, fun k h1 h2 h3 => (k6.other k (by omega)).trans (k2.block k h1 h2 h3)⟩, k7⟩
    · exact (huL.keep fun q q1 q2 => World.cell?_of_block ((k6.other _ (by omega)).trans (k3 _ q1 q2))).more (by omega) (by rw [k6.size]; exact k4)
    · exact (huS.keep fun q q1 q2 => (k6.other _ (by omega)).trans (k3 _ q1 q2)).more (by omega)
  have HTK : Hid (∀ bad', ((parseT s = some u.abs ∧ bad' = bad) ∨ (parseT s = none ∧ bad' = true)) → Took ((txtT l a).bind fun x => (parseT x.1).map fun t => (t, x.2)) e bad u.abs a' e' bad') := fun bad' hc => by
    refine Took.bind hT ?_
    rcases hc with ⟨c1, rfl⟩ | ⟨c1, rfl⟩
    · refine ⟨fun hn => hn, fun hg => .inl ⟨?_, hg⟩⟩
      show (parseT s).map _ = _
      rw [c1]; rfl
    · refine ⟨fun _ hg => (by cases hg.2), fun _ => .inr ⟨?_, fun hg => (by cases hg.2)⟩⟩
      show (parseT s).map _ = _
      rw [c1]; rfl
  simp only [V.sl] at hq4 hn4 p4 hq3b hG4 hL4 hS4 hs4 HFIN ⊢
  rw [show u.val = .agg #[.int .i64 u.kind, .int .u64 (u.a : Int), .int .u64 (u.b : Int), .slice u.addr u.parts.length u.cap] from rfl]
  go_upto_region 2 with (fail)
  generalize w3.alloc (.cells #[.int .i64 u.kind, .int .u64 (u.a : Int), .int .u64 (u.b : Int), .slice u.addr u.parts.length u.cap] 44) = w4 at *
  obtain ⟨z, hz⟩ : ∃ z, z = (ansT (parseT s)).2 := ⟨_, rfl⟩
  rw [← hz] at HAN ⊢
  clear hz PP hL4 hS4 huL huS hua p3 p2 hq3 hq2 hG3 hG2 HB8
  rcases HAN.out with ⟨h1, rfl⟩ | ⟨h1, rfl⟩
  · have HTK := Lib_hid (HTK.out bad (.inl ⟨h1, rfl⟩))
    clear HAN h1
    have hrs := rowset4 (.int .i64 u.kind) (.int .u64 (u.a : Int)) (.int .u64 (u.b : Int)) (.slice u.addr u.parts.length u.cap) hq3b
    have HF := Lib_hid (HFIN.out w4 _ bad p4 hG4 (fun k k1 k2 => hn4.block k k2) (by omega) hq3b hrs HTK.out)
    have HR := Lib_hid hrs.row
    obtain ⟨d0, d1, d2, d3⟩ : w4.cell? ⟨w3.heap.size, 0, none⟩ = some (.int .i64 u.kind) ∧ w4.cell? ⟨w3.heap.size, 1, none⟩ = some (.int .u64 (u.a : Int)) ∧ w4.cell? ⟨w3.heap.size, 2, none⟩ = some (.int .u64 (u.b : Int)) ∧ w4.cell? ⟨w3.heap.size, 3, none⟩ = some (.slice u.addr u.parts.length u.cap) := ⟨cell_of_row _ _ 0 _ _ _ hq4, cell_of_row _ _ 1 _ _ _ hq4, cell_of_row _ _ 2 _ _ _ hq4, cell_of_row _ _ 3 _ _ _ hq4⟩
    obtain ⟨b0, b1, b2, b3⟩ : w4.cell? ⟨w.heap.size, 0, none⟩ = some (.int .i64 0) ∧ w4.cell? ⟨w.heap.size, 1, none⟩ = some (.int .u64 0) ∧ w4.cell? ⟨w.heap.size, 2, none⟩ = some (.int .u64 0) ∧ w4.cell? ⟨w.heap.size, 3, none⟩ = some (.slice none 0 0) := ⟨cell_of_row _ _ 0 _ _ _ hq3b, cell_of_row _ _ 1 _ _ _ hq3b, cell_of_row _ _ 2 _ _ _ hq3b, cell_of_row _ _ 3 _ _ _ hq3b⟩
    have z0 := frozen_of_row w4 w.heap.size 0 _ _ hq3b
    have z1 := frozen_of_row w4 w.heap.size 1 _ _ hq3b
    have z2 := frozen_of_row w4 w.heap.size 2 _ _ hq3b
    have z3 := frozen_of_row w4 w.heap.size 3 _ _ hq3b
    clear HFIN HTK hrs hT p4 hG4 hq4 hq3b hn4
    generalize hP : put4 w4 w.heap.size (.int .i64 u.kind) (.int .u64 (u.a : Int)) (.int .u64 (u.b : Int)) (.slice u.addr u.parts.length u.cap) = W9 at *
    have HP := Lib_hid hP
    clear hP
    generalize u.addr = pA at *
    generalize u.parts.length = pn at *
    generalize u.cap = pc at *
    generalize u.kind = pk at *
    generalize (u.a : Int) = pa at *
    generalize (u.b : Int) = pb at *
    go_wp2
    show bodyPost _ _ _ _ _ (put4 w4 w.heap.size (.int .i64 pk) (.int .u64 pa) (.int .u64 pb) (.slice pA pn pc))
    rw [HP.out]
    exact bodyPost_ret (results_cell_row (p := 2) (ty := 44) rfl _ _ w.heap.size 44 #[.int .i64 pk, .int .u64 pa, .int .u64 pb, .slice pA pn pc] (0, 0) _ rfl HR.out Tryz.underlying44 rfl hsz) rfl HF.out
  · have HTK := Lib_hid (HTK.out true (.inr ⟨h1, rfl⟩))
    clear HAN h1
    obtain ⟨-, e1, -, y1⟩ := p4.cells
    have p5 := p4.spoilt true
    have hq5 := (Below.heap_setCell w4 ⟨g, 1, none⟩ (.bool true) w.heap.size (by show w.heap.size ≠ g; omega)).trans hq3b
    have hr5 := (Below.heap_setCell w4 ⟨g, 1, none⟩ (.bool true) w3.heap.size (by show w3.heap.size ≠ g; omega)).trans hq4
    have hG5 := hG4.trans (Grow2.set w4 g h 1 (.bool true))
    have hk5 : ∀ k, w2.heap.size ≤ k → k < w3.heap.size → (w4.setCell ⟨g, 1, none⟩ (.bool true)).heap[k]? = w3.heap[k]? := fun k k1 k2 => (Below.heap_setCell w4 ⟨g, 1, none⟩ (.bool true) k (by show k ≠ g; omega)).trans (hn4.block k k2)
    have hz5 : w3.heap.size ≤ (w4.setCell ⟨g, 1, none⟩ (.bool true)).heap.size := by simp [World.setCell]; omega
    go_upto_region 4 with (fail)
    generalize w4.setCell ⟨g, 1, none⟩ (.bool true) = w5 at *
    have hrs := rowset4 (.int .i64 u.kind) (.int .u64 (u.a : Int)) (.int .u64 (u.b : Int)) (.slice u.addr u.parts.length u.cap) hq5
    have HF := Lib_hid (HFIN.out w5 _ true p5 hG5 hk5 hz5 hq5 hrs HTK.out)
    have HR := Lib_hid hrs.row
    obtain ⟨d0, d1, d2, d3⟩ : w5.cell? ⟨w3.heap.size, 0, none⟩ = some (.int .i64 u.kind) ∧ w5.cell? ⟨w3.heap.size, 1, none⟩ = some (.int .u64 (u.a : Int)) ∧ w5.cell? ⟨w3.heap.size, 2, none⟩ = some (.int .u64 (u.b : Int)) ∧ w5.cell? ⟨w3.heap.size, 3, none⟩ = some (.slice u.addr u.parts.length u.cap) := ⟨cell_of_row _ _ 0 _ _ _ hr5, cell_of_row _ _ 1 _ _ _ hr5, cell_of_row _ _ 2 _ _ _ hr5, cell_of_row _ _ 3 _ _ _ hr5⟩
    obtain ⟨b0, b1, b2, b3⟩ : w5.cell? ⟨w.heap.size, 0, none⟩ = some (.int .i64 0) ∧ w5.cell? ⟨w.heap.size, 1, none⟩ = some (.int .u64 0) ∧ w5.cell? ⟨w.heap.size, 2, none⟩ = some (.int .u64 0) ∧ w5.cell? ⟨w.heap.size, 3, none⟩ = some (.slice none 0 0) := ⟨cell_of_row _ _ 0 _ _ _ hq5, cell_of_row _ _ 1 _ _ _ hq5, cell_of_row _ _ 2 _ _ _ hq5, cell_of_row _ _ 3 _ _ _ hq5⟩
    have z0 := frozen_of_row w5 w.heap.size 0 _ _ hq5
    have z1 := frozen_of_row w5 w.heap.size 1 _ _ hq5
    have z2 := frozen_of_row w5 w.heap.size 2 _ _ hq5
    have z3 := frozen_of_row w5 w.heap.size 3 _ _ hq5
    clear HFIN HTK hrs hT p4 p5 hq5 hr5 hG5 hk5 hz5 hG4 hq4 hq3b hn4
    generalize hP : put4 w5 w.heap.size (.int .i64 u.kind) (.int .u64 (u.a : Int)) (.int .u64 (u.b : Int)) (.slice u.addr u.parts.length u.cap) = W9 at *
    have HP := Lib_hid hP
    clear hP
    generalize u.addr = pA at *
    generalize u.parts.length = pn at *
    generalize u.cap = pc at *
    generalize u.kind = pk at *
    generalize (u.a : Int) = pa at *
    generalize (u.b : Int) = pb at *
    go_wp2
    show bodyPost _ _ _ _ _ (put4 w5 w.heap.size (.int .i64 pk) (.int .u64 pa) (.int .u64 pb) (.slice pA pn pc))
    rw [HP.out]
    exact bodyPost_ret (results_cell_row (p := 2) (ty := 44) rfl _ _ w.heap.size 44 #[.int .i64 pk, .int .u64 pa, .int .u64 pb, .slice pA pn pc] (0, 0) _ rfl HR.out Tryz.underlying44 rfl hsz) rfl HF.out
end
end Go.Proofs.YtdmoknnnlfkfoaaGreatDoor

namespace Go.Proofs.YtdmoknnnlfkfoaaGreatDoor
open Go Go.RowKit
set_option linter.unusedVariables false
theorem ent_took {l : List Nat} {a a1 a2 a3 e e1 e2 e3 : Nat} {bad bad3 : Bool} {x y z : Nat} {m : Bool} (h1 : Took (numT l a) e bad x a1 e1 bad) (h2 : Took (verT l a1) e1 bad (y, z) a2 e2 bad) (h3 : Took (matT l a2) e2 bad m a3 e3 bad3) :
    Took (entT l a) e bad ⟨x, y, z, m⟩ a3 e3 bad3 := by
  have he : entT l a = (numT l a).bind fun x => (verT l x.2).bind fun v => (matT l v.2).map fun m => (⟨x.1, v.1.1, v.1.2, m.1⟩, m.2) := by
    rw [entT_eq]
    congr 1; funext x
    unfold verT
    cases numT l x.2 with
    | none => rfl
    | some y =>
      simp only [Option.bind_some]
      cases numT l y.2 with
      | none => rfl
      | some z => rfl
  rw [he]
  exact h1.bind (h2.bind (f := fun v : (Nat × Nat) × Nat => (matT l v.2).map fun m => ((⟨x, v.1.1, v.1.2, m.1⟩ : En), m.2)) (Took.map (fun m => (⟨x, y, z, m⟩ : En)) (fun _ _ => rfl) h3))
structure EI (l : List Nat) (N a0 e0 : Nat) (bad0 : Bool) (es : List En) (m a e : Nat) (bad : Bool) : Prop where
  ok : ∀ x ∈ es, x.ok
  len : 4 * es.length ≤ l.length + 4
  le : a ≤ l.length
  bd : ¬ GoodB e0 bad0 → ¬ GoodB e bad
  rd : GoodB e0 bad0 → (GoodB e bad ∧ a0 + 4 * es.length ≤ a ∧ entsT l N a0 = (entsT l m a).map fun x => (es ++ x.1, x.2)) ∨ (¬ GoodB e bad ∧ entsT l N a0 = none)
section
variable {l : List Nat} {N a0 e0 m a e : Nat} {bad0 bad : Bool} {es : List En}
theorem EI.zero (ha : a0 ≤ l.length) : EI l N a0 e0 bad0 [] N a0 e0 bad0 := ⟨by simp, by simp, ha, fun h => h, fun h => .inl ⟨h, by simp, by simp⟩⟩
theorem EI.step (h : EI l N a0 e0 bad0 es (m + 1) a e bad) (hb : ∀ x ∈ l, x < 256) (hg : GoodB e bad) {x : En} {a' e' : Nat} {bad' : Bool} (hx : x.ok) (ha : a' ≤ l.length) (ht : Took (entT l a) e bad x a' e' bad') : EI l N a0 e0 bad0 (es ++ [x]) m a' e' bad' := by
  have hg0 : GoodB e0 bad0 := Classical.byContradiction fun hn => h.bd hn hg
  rcases h.rd hg0 with ⟨_, h2, h3⟩ | ⟨h2, _⟩
  · have hle := h.le
    refine ⟨fun y hy => ?_, by simp; omega, ha, fun hn => absurd hg0 hn, fun _ => ?_⟩
    · rcases List.mem_append.1 hy with hy | hy
      · exact h.ok y hy
      · obtain rfl : y = x := by simpa using hy
        exact hx
    · have hu : entsT l (m + 1) a = (entT l a).bind fun x => (entsT l m x.2).map fun y => (x.1 :: y.1, y.2) := rfl
      rcases ht.2 hg with ⟨k1, k2⟩ | ⟨k1, k2⟩
      · obtain ⟨-, -, -, k3⟩ := entT_some hb k1
        refine .inl ⟨k2, by simp; omega, ?_⟩
        rw [h3, hu, k1, Option.bind_some]
        cases entsT l m a' with
        | none => rfl
        | some y => simp
      · refine .inr ⟨k2, ?_⟩
        rw [h3, hu, k1]
        rfl
  · exact absurd hg h2
theorem EI.fin (h : EI l N a0 e0 bad0 es m a e bad) (hs : m = 0 ∨ ¬ GoodB e bad) : Took (entsT l N a0) e0 bad0 es a e bad := by
  refine ⟨h.bd, fun hg => ?_⟩
  rcases h.rd hg with ⟨h1, _, h3⟩ | ⟨h1, h2⟩
  · rcases hs with rfl | hs
    · refine .inl ⟨?_, h1⟩
      rw [h3]
      show some (es ++ [], a) = _
      simp
    · exact absurd h1 hs
  · exact .inr ⟨h2, h1⟩
end
section
variable {g h n c a e : Nat} {A : Option Addr} {l : List Nat} {bad : Bool} {w : World}
theorem PlS.kept' {w' : World} {B : Nat} {v v' : Value} (p : PlS g h A n c l a e bad w) (hst : Stp w w' v v') (hge : ∀ k, v.ownBlock = some k → B ≤ k) (hB : g < B) : PlS g h A n c l a e bad w' :=
  ⟨(hst.grow.block g p.gl (fun e => by have := hge g e.symm; omega)).trans p.box, p.rd.kept' hst (fun k hk => by have := hge k hk; have := p.lt; omega), p.lt⟩
set_option maxRecDepth 100000 in
set_option maxHeartbeats 3200000 in
theorem pents_any (p : PlS g h A n c l a e bad w) : Calls Tryz.prog 151 #[.pointer (some ⟨g, 0, none⟩)] w fun en w' =>
    ∃ (A' : Option Addr) (c' : Nat) (es : List En) (a' e' : Nat) (bad' : Bool), en = .returned (.slice A' es.length c') ∧ (∀ x ∈ es, x.ok) ∧ 4 * es.length ≤ l.length + 4 ∧ w'.ownsRow w.heap.size 67 4 (.slice A' es.length c') es.length (enCells es) ∧
      PlS g h A n c l a' e' bad' w' ∧ Grow2 w w' g h ∧ Took ((numT l a).bind fun x => entsT l x.1 x.2) e bad es a' e' bad' := by
  have hgl := p.gl
  have hhg := p.lt
  have hll := p.rd.len
  have HB8 := Lib_hid p.rd.b8
  obtain ⟨i0, hi, hz0, hz1, hz2⟩ := info_parts Tryz.infoEn
  have PN := pnum_any p
  obtain ⟨c0, -, -, -⟩ := p.cells
  go_enter Tryz.func151, Tryz.ntmps151
  go_wp2_with fail
  refine PN.mono ?_
  rintro en w1 ⟨N, a1, e1, rfl, hN, p1, hs1, ht1⟩
  have hG1 := hs1.grow2 g
  have hpl1 := p1.rd.place
  have FIN : Hid (∀ (W : World) (A' : Option Addr) (n' c' : Nat) (es : List En) (m a2 e2 : Nat) (bad2 : Bool), n' = es.length → EI l N a1 e1 bad es m a2 e2 bad2 → (m = 0 ∨ ¬ GoodB e2 bad2) → W.ownsRow w.heap.size 67 4 (.slice A' n' c') n' (enCells es) → PlS g h A n c l a2 e2 bad2 W → Grow2 w W g h →
      ∃ (A2 : Option Addr) (c2 : Nat) (es : List En) (a' e' : Nat) (bad' : Bool), Ending.returned (.slice A' n' c') = .returned (.slice A2 es.length c2) ∧ (∀ x ∈ es, x.ok) ∧ 4 * es.length ≤ l.length + 4 ∧ W.ownsRow w.heap.size 67 4 (.slice A2 es.length c2) es.length (enCells es) ∧
        PlS g h A n c l a' e' bad' W ∧ Grow2 w W g h ∧ Took ((numT l a).bind fun x => entsT l x.1 x.2) e bad es a' e' bad') := fun W A' n' c' es m a2 e2 bad2 h1 h2 h3 h4 h5 h6 => by
    subst h1
    exact ⟨A', c', es, a2, e2, bad2, rfl, h2.ok, h2.len, h4, h5, h6, Took.bind (f := fun x : Nat × Nat => entsT l x.1 x.2) ht1 (h2.fin h3)⟩
  clear ht1 PN hs1 c0 p
  go_wp2
  go_loopw [3, 4] (fun v y wr => ∃ (n' c' m a2 e2 : Nat) (A' : Option Addr) (es : List En) (bad2 : Bool), v = .slice A' n' c' ∧ y = .int .u64 (m : Int) ∧ m < 18446744073709551616 ∧ Hid (n' = es.length) ∧ Hid (EI l N a1 e1 bad es m a2 e2 bad2) ∧ wr.ownsRow w.heap.size 67 4 (.slice A' n' c') n' (enCells es) ∧ Hid (PlS g h A n c l a2 e2 bad2 wr) ∧ Hid (Grow2 w wr g h)) (fun _ y _ => (intOf y).toNat)
  case atStart => exact ⟨0, 0, N, a1, e1, none, [], bad, rfl, rfl, hN, rfl, EI.zero hpl1, World.ownsRow_nil _ _ _ _, p1, hG1⟩
  case round =>
    obtain ⟨n', c', m, a2, e2, A', es, bad2, rfl, rfl, hm, hn, hI, hown, hP, hG⟩ := hrel
    by_cases h0 : m = 0
    · have HF := Lib_hid (FIN.out wr A' n' c' es m a2 e2 bad2 hn.out hI.out (.inl h0) hown hP.out hG.out)
      clear FIN hown hI hP hG p1 hG1
      subst h0
      go_wp2
      go_ret
      exact HF.out
    · obtain ⟨m', rfl⟩ : ∃ m', m = m' + 1 := ⟨m - 1, by omega⟩
      have hmi : (0 : Int) < ((m' + 1 : Nat) : Int) := by omega
      have GD := pgood_any hP.out
      by_cases hg : GoodB e2 bad2
      · rw [show decide (GoodB e2 bad2) = true from decide_eq_true hg] at GD
        have hlen := hI.out.len
        have HST : Hid (∀ (x : En) (a' e' : Nat) (bad' : Bool), x.ok → a' ≤ l.length → Took (entT l a2) e2 bad2 x a' e' bad' → EI l N a1 e1 bad (es ++ [x]) m' a' e' bad') := fun x a' e' bad' k1 k2 k3 => hI.out.step HB8.out hg k1 k2 k3
        have hm1 : n' + 1 ≤ maxLen := by have := hn.out; unfold maxLen; omega
        have hm2 : (n' + 1) * 32 ≤ 140737488355328 := by have := hn.out; omega
        clear FIN hI p1 hG1
        go_upto_region 5 with (go_at_call 26; refine GD.mono ?_; rintro en wx ⟨rfl, rfl⟩)
        obtain ⟨c0, -, -, -⟩ := hP.out.cells
        have PN := pnum_any hP.out
        clear GD
        go_wp2_with fail
        refine PN.mono ?_
        rintro en w2 ⟨xa, a3, e3, rfl, hxa, p2, hs2, ht2⟩
        have PV := pver_any p2
        have hK2 : Grow2 wx w2 g h := hs2.grow2 g
        clear PN c0 hs2 hP
        go_wp2_with fail
        refine PV.mono ?_
        rintro en w3 ⟨xb, xc, a4, e4, rfl, ⟨hxb, hxc⟩, p3, hG3, ht3⟩
        have PM := pmatch_any p3
        have hK3 := hK2.trans hG3
        clear PV hK2 hG3 p2
        go_wp2_with fail
        refine PM.mono ?_
        rintro en w4 ⟨xm, a5, e5, bad5, rfl, p4, hG4, ht4⟩
        have hK4 := hK3.trans hG4
        have hEI := Lib_hid (HST.out ⟨xa, xb, xc, xm⟩ a5 e5 bad5 ⟨by show (xa : Int) ≤ _; omega, by show (xb : Int) ≤ _; omega, by show (xc : Int) ≤ _; omega⟩ p4.rd.place (ent_took ht2 ht3 ht4))
        have ho4 : w4.ownsRow w.heap.size 67 4 (.slice A' n' c') n' (enCells es) := own_keep hown fun k hk => hK4.block k (own_lt hown k hk) (fun e => by have := own_ge hown k hk; omega) (fun e => by have := own_ge hown k hk; omega)
        have hG5 := hG.out.trans hK4
        have hec : enCells (es ++ [⟨xa, xb, xc, xm⟩]) = enCells es ++ [.int .u64 (xa : Int), .int .u64 (xb : Int), .int .u64 (xc : Int), .bool xm] := by rw [enCells_append]; simp [enCells, En.cells]
        have HEC := Lib_hid hec
        clear PM hK3 hK4 hG4 p3 ht2 ht3 ht4 HST hown hG hec
        have hb5 := below_new w4 (.cells #[.int .u64 (xa : Int), .int .u64 (xb : Int), .int .u64 (xc : Int), .bool xm] 67)
        have ho5 := own_below ho4 hb5 (own_lt ho4)
        have hr5 := rd_row (size := 4) (n := 1) (l := [.int .u64 (xa : Int), .int .u64 (xb : Int), .int .u64 (xc : Int), .bool xm]) (heap_alloc_new w4 (.cells #[.int .u64 (xa : Int), .int .u64 (xb : Int), .int .u64 (xc : Int), .bool xm] 67)) rfl
        have p5 := Lib_hid (p4.kept hb5)
        have hG6 : Hid (Grow2 w (w4.alloc (.cells #[.int .u64 (xa : Int), .int .u64 (xb : Int), .int .u64 (xc : Int), .bool xm] 67)) g h) := hG5.trans (Grow2.ofB hb5)
        have hs5 := hG6.out.size
        have h1c : ∀ u ∈ ([.int .u64 (xa : Int), .int .u64 (xb : Int), .int .u64 (xc : Int), .bool xm] : List Value), u.oneCell' = true := by
          intro u hu
          simp only [List.mem_cons, List.not_mem_nil, or_false] at hu
          rcases hu with rfl | rfl | rfl | rfl <;> rfl
        clear p4 hG5 ho4 hb5
        go_wp2_with (at_builtin; (refine wpList_app rfl _ _ 45 rfl w.heap.size 67 i0 (.agg #[.int .u64 0, .int .u64 0, .int .u64 0, .bool false]) 4 32 Tryz.underlying45 hi hz0 hz1 hz2 rfl (by decide) (.slice A' n' c') n' _ rfl ho5 _ _ 1 1 _ rfl hr5 h1c hm1 hm2 hs5 ?_); intro v' w6 hown' hst; obtain ⟨A6, c6, rfl, _⟩ := own_form hown')
        go_roundw
        case rel =>
          have hge : ∀ k, (Value.slice A' n' c').ownBlock = some k → w.heap.size ≤ k := own_ge ho5
          refine ⟨n' + 1, c6, m', a5, e5, A6, es ++ [⟨xa, xb, xc, xm⟩], bad5, rfl, by go_num, by omega, Lib_hid (by rw [List.length_append, ← hn.out]; rfl), hEI, by rw [HEC.out]; exact hown', ?_, ?_⟩
          · exact p5.out.kept' hst hge hgl
          · have k := hG6.out
            exact ⟨hst.grow.os.trans k.os, hst.grow.tape.trans k.tape, hst.grow.output.trans k.output, Nat.le_trans k.size hst.grow.size, fun i h1 h2 h3 => (hst.grow.block i (by omega) (fun e => by have := hge i e.symm; omega)).trans (k.block i h1 h2 h3)⟩
        case measure =>
          simp [intOf]
      · rw [show decide (GoodB e2 bad2) = false from decide_eq_false hg] at GD
        have HF := Lib_hid (FIN.out wr A' n' c' es (m' + 1) a2 e2 bad2 hn.out hI.out (.inr hg) hown hP.out hG.out)
        clear FIN hown hI hP hG p1 hG1
        go_wp2_with (go_at_call 26; refine GD.mono ?_; rintro en wx ⟨rfl, rfl⟩)
        go_ret
        exact HF.out
end
end Go.Proofs.YtdmoknnnlfkfoaaGreatDoor

namespace Go.Proofs.YtdmoknnnlfkfoaaGreatDoor
open Go Go.RowKit
set_option linter.unusedVariables false
theorem numsUp_le {l : List Nat} (hb : ∀ x ∈ l, x < 256) {a : Nat} (ha : a ≤ l.length) : ∀ j, (numsUp l a j).1 ≤ l.length ∧ (numsUp l a j).2.1 < 1000 ∧ ∀ x ∈ (numsUp l a j).2.2, x < 18446744073709551616
  | 0 => ⟨ha, by show 0 < 1000; omega, fun x hx => by cases hx⟩
  | j + 1 => by
    obtain ⟨h1, h2, h5⟩ := numsUp_le hb ha j
    obtain ⟨⟨p, e, v⟩, hS⟩ : ∃ x, numR l (numsUp l a j).1 0 = x := ⟨_, rfl⟩
    obtain ⟨h3, h4, h6⟩ := numR_le hb h1 (by omega) hS
    rw [numsUp, hS]
    split
    · exact ⟨h1, h2, h5⟩
    · split
      · exact ⟨h1, h4, h5⟩
      · refine ⟨h3, by show 0 < 1000; omega, fun x hx => ?_⟩
        rcases List.mem_append.1 hx with hx | hx
        · exact h5 x hx
        · obtain rfl : x = v := by simpa using hx
          omega
theorem numsR_le {l xs : List Nat} (hb : ∀ x ∈ l, x < 256) {a a' e' n : Nat} (ha : a ≤ l.length) (h : numsR l a 0 (n : Int) = (a', e', xs)) : a' ≤ l.length ∧ e' < 1000 ∧ ∀ x ∈ xs, x < 18446744073709551616 := by
  unfold numsR at h
  rw [if_neg (by omega), if_neg (by omega), Int.toNat_natCast] at h
  obtain ⟨h1, h2, h3⟩ := numsUp_le hb ha n
  split at h
  · injection h with k1 h
    injection h with k2 k3
    rw [← k1, ← k2, ← k3]
    exact ⟨ha, h2, fun x hx => by cases hx⟩
  · rw [h] at h1 h2 h3
    exact ⟨h1, h2, h3⟩
theorem dent_step {l xs ms : List Nat} {a p e3 q e4 : Nat} (hb : ∀ x ∈ l, x < 256) (ha : a ≤ l.length) (h1 : numsR l a 0 3 = (p, e3, xs)) (h2 : rawS l p e3 1 = (q, e4, ms)) :
    q ≤ l.length ∧ e4 < 1000 ∧ ((e4 ≠ 0 ∧ entT l a = none) ∨ (e4 = 0 ∧ ∃ c, ms = [c] ∧ c < 256 ∧ 1 < c ∧ entT l a = none) ∨ (e4 = 0 ∧ ∃ c x y z, ms = [c] ∧ c < 256 ∧ ¬ 1 < c ∧ xs = [x, y, z] ∧ entT l a = some (⟨x, y, z, c == 1⟩, q))) := by
  obtain ⟨k1, k2, -⟩ := numsR_le (n := 3) hb ha h1
  have hN := numsR_T (n := 3) h1
  rw [entT_nums]
  unfold rawS at h2
  rcases hN with ⟨rfl, hT⟩ | ⟨h3, -, hT⟩
  · rw [if_neg (by omega), if_neg (by omega)] at h2
    rw [hT, Option.bind_some]
    have hlen := nusT_len hT
    obtain ⟨x, y, z, rfl⟩ : ∃ x y z, xs = [x, y, z] := by
      match xs, hlen with
      | [x, y, z], _ => exact ⟨x, y, z, rfl⟩
    by_cases hs : (l.length : Int) - p < 1
    · rw [if_pos hs] at h2
      injection h2 with j1 h2
      injection h2 with j2 j3
      subst j1 j2
      refine ⟨k1, by omega, .inl ⟨by omega, ?_⟩⟩
      unfold matT
      rw [if_neg (by simp only; omega)]
      rfl
    · rw [if_neg hs] at h2
      injection h2 with j1 h2
      injection h2 with j2 j3
      have hlt : p < l.length := by omega
      have hc : l.getD p 0 = l[p] := by rw [List.getD_eq_getElem?_getD, List.getElem?_eq_getElem hlt]; rfl
      have hm : ms = [l.getD p 0] := by
        rw [← j3, List.drop_eq_getElem_cons hlt, hc]
        rfl
      have hc8 : l.getD p 0 < 256 := by rw [hc]; exact hb _ (List.getElem_mem hlt)
      subst j2
      have hq : q = p + 1 := j1.symm
      subst hq
      refine ⟨hlt, by omega, ?_⟩
      by_cases h1c : 1 < l.getD p 0
      · refine .inr (.inl ⟨rfl, _, hm, hc8, h1c, ?_⟩)
        unfold matT
        rw [if_neg (by simp only; omega)]
        rfl
      · refine .inr (.inr ⟨rfl, _, x, y, z, hm, hc8, h1c, rfl, ?_⟩)
        unfold matT
        rw [if_pos ⟨hlt, by simp only; omega⟩]
        rfl
  · rw [if_pos h3] at h2
    injection h2 with j1 h2
    injection h2 with j2 j3
    subst j1 j2
    exact ⟨k1, k2, .inl ⟨h3, by rw [hT]; rfl⟩⟩
end Go.Proofs.YtdmoknnnlfkfoaaGreatDoor

namespace Go.Proofs.YtdmoknnnlfkfoaaGreatDoor
open Go Go.RowKit
set_option linter.unusedVariables false
theorem docver_any (a b : Nat) (w : World) : Calls Tryz.prog 29 #[.agg #[.int .u64 (a : Int), .int .u64 (b : Int)]] w fun e w' => e = .returned (.agg #[.int .u64 (a : Int), .int .u64 (b : Int)]) ∧ Below w.heap.size w w' := by
  have hsz : (Tryz.prog.info? 31).map (·.size) = some 2 := by kernel_rfl
  have hb := (below_new w (.cells #[.int .u64 (a : Int), .int .u64 (b : Int)] 41)).alloc (by simp) (.cells #[.int .u64 (a : Int), .int .u64 (b : Int)] 31)
  have hh := heap_alloc_new (w.alloc (.cells #[.int .u64 (a : Int), .int .u64 (b : Int)] 41)) (.cells #[.int .u64 (a : Int), .int .u64 (b : Int)] 31)
  rw [show (w.alloc (.cells #[.int .u64 (a : Int), .int .u64 (b : Int)] 41)).heap.size = w.heap.size + 1 by simp] at hh
  go_enter Tryz.func29, Tryz.ntmps29
  go_wp2
  exact bodyPost_ret (results_cell_row (p := 2) (ty := 31) rfl _ _ (w.heap.size + 1) 31 #[.int .u64 (a : Int), .int .u64 (b : Int)] (0, 0) _ rfl hh Tryz.underlying31 rfl hsz) rfl ⟨rfl, hb⟩
end Go.Proofs.YtdmoknnnlfkfoaaGreatDoor
