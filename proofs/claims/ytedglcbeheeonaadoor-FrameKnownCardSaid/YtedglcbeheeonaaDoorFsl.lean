/-
  The contract of the program's frame.Split.
-/
import Derived.Test.YtedglcbeheeonaaDoorFra2
import Derived.Maps.OwnIn
namespace Go.Proofs.YtedglcbeheeonaaDoor
open Go Go.RowKit Go.Shelf
set_option linter.unusedVariables false

attribute [local go_sem] Oper.semAt_some

theorem Tryd.info59 : (Tryd.prog.info? 59).map (fun i => (i.zero, i.size, i.bytes)) = some (some (.agg #[.int .u8 0, .slice none 0 0, .int .i64 0, .int .i64 0]), 4, 48) := by kernel_rfl

def Ev.cells (x : Ev) : List Value := [.int .u8 (x.k : Int), .slice x.A x.p.length x.c, .int .i64 (x.f : Int), .int .i64 (x.t : Int)]
def plCells (xs : List Ev) : List Value := xs.flatMap Ev.cells
theorem plCells_length (xs : List Ev) : (plCells xs).length = xs.length * 4 := by
  induction xs with
  | nil => rfl
  | cons x l ih => show (x.cells ++ plCells l).length = _; rw [List.length_append, ih]; simp [Ev.cells]; omega
theorem plCells_append (xs ys : List Ev) : plCells (xs ++ ys) = plCells xs ++ plCells ys := by simp [plCells]
theorem pl_one (xs : List Ev) : ∀ u ∈ plCells xs, u.oneCell' = true := by
  intro u hu
  obtain ⟨f, _, hu⟩ := List.mem_flatMap.1 hu
  simp only [Ev.cells, List.mem_cons, List.not_mem_nil, or_false] at hu
  rcases hu with rfl | rfl | rfl | rfl <;> rfl

/-- The payload's slice. -/
def Ev.sl (x : Ev) : Value := .slice x.A x.p.length x.c
/-- A payload of the caller's own. -/
def PayOK (w : World) (B : Nat) (x : Ev) : Prop := w.ownsRow B 5 1 x.sl x.p.length (bs x.p) ∧ x.k < 256 ∧ ∀ y ∈ x.p, y < 256

/-- A row of placed frames, and their payloads: each in memory of its own. -/
structure PlK (B : Nat) (w : World) (v : Value) (m : Nat) (xs : List Ev) : Prop where
  row : w.ownsRow B 59 4 v m (plCells xs)
  len : xs.length = m
  pay : ∀ x ∈ xs, PayOK w B x
  apart : ∀ x ∈ xs, ∀ k, x.sl.ownBlock = some k → v.ownBlock ≠ some k
  pair : xs.Pairwise fun x y => ∀ k, x.sl.ownBlock = some k → y.sl.ownBlock ≠ some k

theorem PlK.nil (B : Nat) (w : World) : PlK B w (.slice none 0 0) 0 [] := ⟨World.ownsRow_nil w B _ 4, rfl, by simp, by simp, List.Pairwise.nil⟩
/-- The blocks of all. -/
def PlIn (v : Value) (xs : List Ev) (k : Nat) : Prop := v.ownBlock = some k ∨ ∃ x ∈ xs, x.sl.ownBlock = some k
theorem PlK.lt {B m : Nat} {w : World} {v : Value} {xs : List Ev} (h : PlK B w v m xs) {k : Nat} (hk : PlIn v xs k) : B ≤ k ∧ k < w.heap.size := by
  rcases hk with hk | ⟨x, hx, hk⟩
  · exact ⟨own_ge h.row k hk, own_lt h.row k hk⟩
  · exact ⟨own_ge (h.pay x hx).1 k hk, own_lt (h.pay x hx).1 k hk⟩
theorem PlK.keep {B m : Nat} {w w' : World} {v : Value} {xs : List Ev} (h : PlK B w v m xs) (hk : ∀ k, PlIn v xs k → w'.heap[k]? = w.heap[k]?) : PlK B w' v m xs :=
  ⟨own_keep h.row fun k e => hk k (.inl e), h.len, fun x hx => ⟨own_keep (h.pay x hx).1 fun k e => hk k (.inr ⟨x, hx, e⟩), (h.pay x hx).2⟩, h.apart, h.pair⟩
theorem PlK.grown {B m : Nat} {w w' : World} {v : Value} {xs : List Ev} {row : Option Nat} (h : PlK B w v m xs) (hg : w.grownBy w' row) (hr : ∀ k, PlIn v xs k → some k ≠ row) : PlK B w' v m xs :=
  h.keep fun k hk => hg.block k (h.lt hk).2 (hr k hk)
theorem PlK.below {B m : Nat} {w w' : World} {v : Value} {xs : List Ev} (h : PlK B w v m xs) (hb : Below w.heap.size w w') : PlK B w' v m xs :=
  h.keep fun k hk => hb.block k (h.lt hk).2

/-- One more is put behind. -/
theorem PlK.push {B m : Nat} {w w' : World} {v v' : Value} {xs : List Ev} {x : Ev} (h : PlK B w v m xs) (hx : PayOK w B x) (hd : ∀ k, x.sl.ownBlock = some k → ¬ PlIn v xs k)
    (ho : w'.ownsRow B 59 4 v' (m + 1) (plCells (xs ++ [x]))) (hg : w.grownBy w' v.ownBlock) (hr : v'.ownBlock = v.ownBlock ∨ ∃ k, v'.ownBlock = some k ∧ w.heap.size ≤ k) : PlK B w' v' (m + 1) (xs ++ [x]) := by
  have hv : ∀ y, (y ∈ xs ∨ y = x) → ∀ k, y.sl.ownBlock = some k → v.ownBlock ≠ some k := by
    rintro y (hy | rfl) k hk e
    · exact h.apart y hy k hk e
    · exact hd k hk (.inl e)
  have hp : ∀ y, (y ∈ xs ∨ y = x) → PayOK w B y := by
    rintro y (hy | rfl)
    · exact h.pay y hy
    · exact hx
  have mem : ∀ y ∈ xs ++ [x], y ∈ xs ∨ y = x := fun y hy => by simpa using hy
  refine ⟨ho, by rw [List.length_append, h.len]; rfl, fun y hy => ⟨own_keep (hp y (mem y hy)).1 fun k hk => hg.block k (own_lt (hp y (mem y hy)).1 k hk) (fun e => hv y (mem y hy) k hk e.symm), (hp y (mem y hy)).2⟩, fun y hy k hk e => ?_, ?_⟩
  · rcases hr with h1 | ⟨j, h1, h2⟩
    · exact hv y (mem y hy) k hk (h1.symm.trans e)
    · have := own_lt (hp y (mem y hy)).1 k hk
      rw [h1] at e; injection e with e; omega
  · rw [List.pairwise_append]
    refine ⟨h.pair, List.pairwise_singleton _ _, fun y hy z hz k hk e => ?_⟩
    obtain rfl : z = x := by simpa using hz
    exact hd k e (.inr ⟨y, hy, hk⟩)

theorem pl_lit (w : World) (x : Ev) (T : TypeId) : ∀ j u, (plCells [x])[j]? = some u → (w.alloc (.cells #[.int .u8 (x.k : Int), .slice x.A x.p.length x.c, .int .i64 (x.f : Int), .int .i64 (x.t : Int)] T)).cell? ((⟨w.heap.size, 0, none⟩ : Addr).add j) = some u := by
  intro j u hu
  rw [add_plain, Nat.zero_add, cell_of_row _ _ j _ _ _ (heap_alloc_new w _)]
  rw [← hu]
  simp [plCells, Ev.cells]
theorem evs_len (l : List Nat) : ∀ f a, (evs l f a).1.length ≤ f := by
  intro f
  induction f with
  | zero => intro a; simp [evs]
  | succ f ih =>
    intro a
    rw [evs]
    split
    · simp
    · split
      · simp
      · have := ih (by assumption)
        simp
        exact ih _
theorem Part.len {l : List Nat} {xs : List Ev} (h : Part l xs) : xs.length ≤ l.length + 2 := by
  have hl := evs_len l (l.length + 1) 0
  rcases h with ⟨_, a, ha⟩ | ⟨gs, e, r, _, rfl, _, hs⟩
  · obtain ⟨rest, e, hs⟩ := ha.pre
    rw [show evs l (l.length + 1) 0 = splitS l from rfl, hs] at hl
    simp at hl
    omega
  · rw [show evs l (l.length + 1) 0 = splitS l from rfl, hs] at hl
    simp at hl ⊢
    omega

/-- How Split ends. -/
def SplitEnd (l : List Nat) (w : World) (e : Ending) (w' : World) : Prop :=
  ∃ (v : Value) (xs : List Ev) (at_ r : Nat), e = .returned (.tuple #[v, .int .i64 (at_ : Int), .int .i64 (r : Int)]) ∧ PlK w.heap.size w' v xs.length xs ∧ splitS l = (xs.map Ev.abs, at_, r) ∧ Below w.heap.size w w'

theorem PlK.base {B B' m : Nat} {w : World} {v : Value} {xs : List Ev} (h : PlK B w v m xs) (hB : B' ≤ B) : PlK B' w v m xs :=
  ⟨own_base h.row fun k hk => by have := own_ge h.row k hk; omega, h.len, fun x hx => ⟨own_base (h.pay x hx).1 fun k hk => by have := own_ge (h.pay x hx).1 k hk; omega, (h.pay x hx).2⟩, h.apart, h.pair⟩

/-- Split's own, between two rounds: four boxes, the row; none of it in the loop's three blocks. -/
structure SpI (w : World) (H : Nat) (pre : List Ev) (W : World) : Prop where
  ex : ∃ v, W.heap[w.heap.size + 3]? = some (.cells #[v] 51 (0, 0)) ∧ PlK (H + 3) W v pre.length pre
  x2 : W.heap[w.heap.size]? = some (.cells #[.slice none 0 0] 51 (0, 0))
  x3 : W.heap[w.heap.size + 1]? = some (.cells #[.int .i64 0] 3 (0, 0))
  x4 : W.heap[w.heap.size + 2]? = some (.cells #[.int .i64 0] 41 (0, 0))
  good : Goods pre
  b : Below w.heap.size w W
theorem SpI.abide {w : World} {H : Nat} {pre : List Ev} {X Y : World} {r : Nat} (h : SpI w H pre X) (hH : w.heap.size + 4 ≤ H) (h1 : H ≤ r) (h2 : r < H + 3) (hg : X.grownBy Y (some r)) : SpI w H pre Y := by
  obtain ⟨⟨v, e1, e2⟩, x2, x3, x4, hG, hb⟩ := h
  have key : ∀ {k : Nat} {o : Obj}, k < w.heap.size + 4 → X.heap[k]? = some o → Y.heap[k]? = some o := fun hk hx => (hg.block _ (Array.getElem?_eq_some_iff.1 hx).1 (fun e => by injection e with e; omega)).trans hx
  exact ⟨⟨v, key (by omega) e1, e2.grown hg (fun k hk e => by injection e with e; have := (e2.lt hk).1; omega)⟩, key (by omega) x2, key (by omega) x3, key (by omega) x4, hG, hb.grown hg hb.size (fun k hk => by injection hk with hk; omega)⟩

/-- Where a frame offends a rule: the results are set. -/
structure SpX (w : World) (H : Nat) (pre : List Ev) (W : World) : Prop where
  ex : ∃ gs e r v, r ≠ 0 ∧ pre = gs ++ [Ev.bad e r] ∧ Goods gs ∧ W.heap[w.heap.size]? = some (.cells #[v] 51 (0, 0)) ∧ W.heap[w.heap.size + 1]? = some (.cells #[.int .i64 (e : Int)] 3 (0, 0)) ∧
    W.heap[w.heap.size + 2]? = some (.cells #[.int .i64 (r : Int)] 41 (0, 0)) ∧ PlK (H + 3) W v gs.length gs
  b : Below w.heap.size w W
theorem SpX.abide {w : World} {H : Nat} {pre : List Ev} {X Y : World} {r : Nat} (h : SpX w H pre X) (hH : w.heap.size + 4 ≤ H) (h1 : H ≤ r) (h2 : r < H + 3) (hg : X.grownBy Y (some r)) : SpX w H pre Y := by
  obtain ⟨⟨gs, e, r, v, y1, y2, y3, e1, e2, e3, e4⟩, hb⟩ := h
  have key : ∀ {k : Nat} {o : Obj}, k < w.heap.size + 4 → X.heap[k]? = some o → Y.heap[k]? = some o := fun hk hx => (hg.block _ (Array.getElem?_eq_some_iff.1 hx).1 (fun e => by injection e with e; omega)).trans hx
  exact ⟨⟨gs, e, r, v, y1, y2, y3, key (by omega) e1, key (by omega) e2, key (by omega) e3, e4.grown hg (fun k hk e => by injection e with e; have := (e4.lt hk).1; omega)⟩, hb.grown hg hb.size (fun k hk => by injection hk with hk; omega)⟩
def SpIx (w : World) (H : Nat) (cc : Code) (pre : List Ev) (W : World) : Prop := cc = .ret ∧ SpX w H pre W

/-- At Split's end: the results are read; the block for the rounds' deferred calls is shut. -/
theorem split_fin {l : List Nat} {w X : World} {H : Nat} (v : Value) (xs : List Ev) (at_ r : Nat) (hH : w.heap.size + 4 ≤ H) (d2 : X.heap[w.heap.size]? = some (.cells #[v] 51 (0, 0))) (d3 : X.heap[w.heap.size + 1]? = some (.cells #[.int .i64 (at_ : Int)] 3 (0, 0)))
    (d4 : X.heap[w.heap.size + 2]? = some (.cells #[.int .i64 (r : Int)] 41 (0, 0))) (hP : PlK (H + 3) X v xs.length xs) (hb : Below w.heap.size w X) (hs : splitS l = (xs.map Ev.abs, at_, r)) (hD : X.heap[H]? = some (.deferred (some []))) :
    ∀ tmps : Array Value, tmps.getD 2 undef = .pointer (some ⟨w.heap.size, 0, none⟩) → tmps.getD 3 undef = .pointer (some ⟨w.heap.size + 1, 0, none⟩) → tmps.getD 4 undef = .pointer (some ⟨w.heap.size + 2, 0, none⟩) →
      bodyPostM Fence.wide 3 Tryd.prog Tryd.f21 (SplitEnd l w) .ret { tmps := tmps, defers := [{ target := .collected H, args := #[] }] } X := by
  intro tmps t2 t3 t4
  rw [Array.getD_eq_getD_getElem?] at t2 t3 t4
  have hg := grownBy_putObj' X H (.deferred none)
  have c2 := cell_of_row _ w.heap.size 0 _ _ _ ((hg.block w.heap.size (Array.getElem?_eq_some_iff.1 d2).1 (fun e => by injection e with e; omega)).trans d2)
  have c3 := cell_of_row _ (w.heap.size + 1) 0 _ _ _ ((hg.block (w.heap.size + 1) (Array.getElem?_eq_some_iff.1 d3).1 (fun e => by injection e with e; omega)).trans d3)
  have c4 := cell_of_row _ (w.heap.size + 2) 0 _ _ _ ((hg.block (w.heap.size + 2) (Array.getElem?_eq_some_iff.1 d4).1 (fun e => by injection e with e; omega)).trans d4)
  have hP2 := hP.grown hg (fun k hk e => by injection e with e; have := (hP.lt hk).1; omega)
  have hb2 := hb.grown hg hb.size (fun k hk => by injection hk with hk; omega)
  refine ⟨by simp, .inl ⟨_, _, rfl, run_takeDeferred hD, ?_⟩⟩
  generalize X.putObj H (.deferred none) = Y at *
  obtain ⟨Av, cv, rfl, _⟩ := own_form hP2.row
  exact ⟨.tuple #[.slice Av xs.length cv, .int .i64 (at_ : Int), .int .i64 (r : Int)], by simp [results, Tryd.results21, go_sem, t2, t3, t4, c2, c3, c4], ⟨_, xs, at_, r, rfl, hP2.base (by omega), hs, hb2⟩⟩

set_option maxRecDepth 100000 in
set_option maxHeartbeats 2000000 in
theorem split_any (B : Nat) (A : Option Addr) (n c : Nat) (l : List Nat) (w : World) (hT : Tab w) (hr : Rd w B 1 A n (bs l)) (hb8 : ∀ x ∈ l, x < 256) (hB : B ≤ w.heap.size) (hn : n ≤ 1000000) :
    Calls Tryd.prog 21 #[.slice A n c] w (SplitEnd l w) := by
  have hln : l.length = n := hr.count
  subst hln
  obtain ⟨i0, hi, hz0, hz1, hz2⟩ := info_parts Tryd.info59
  obtain ⟨W4, hW4⟩ : ∃ W4, W4 = (((w.alloc (.cells #[.slice none 0 0] 51)).alloc (.cells #[.int .i64 0] 3)).alloc (.cells #[.int .i64 0] 41)).alloc (.cells #[.slice none 0 0] 51) := ⟨_, rfl⟩
  have hs4 : W4.heap.size = w.heap.size + 4 := by rw [hW4]; simp
  have hb4 : Below w.heap.size w W4 := by rw [hW4]; exact (((below_new w _).alloc (by simp) _).alloc (by simp <;> omega) _).alloc (by simp <;> omega) _
  have y2 : W4.heap[w.heap.size]? = some (.cells #[.slice none 0 0] 51 (0, 0)) := by rw [hW4]; exact (heap_alloc_old _ _ (by simp <;> omega)).trans ((heap_alloc_old _ _ (by simp <;> omega)).trans ((heap_alloc_old _ _ (by simp)).trans (heap_alloc_new w _)))
  have y3 : W4.heap[w.heap.size + 1]? = some (.cells #[.int .i64 0] 3 (0, 0)) := by
    rw [hW4]; refine (heap_alloc_old _ _ (by simp <;> omega)).trans ((heap_alloc_old _ _ (by simp)).trans ?_)
    have := heap_alloc_new (w.alloc (.cells #[.slice none 0 0] 51)) (.cells #[.int .i64 0] 3)
    rwa [World.size_alloc] at this
  have y4 : W4.heap[w.heap.size + 2]? = some (.cells #[.int .i64 0] 41 (0, 0)) := by
    rw [hW4]; refine (heap_alloc_old _ _ (by simp)).trans ?_
    have := heap_alloc_new ((w.alloc (.cells #[.slice none 0 0] 51)).alloc (.cells #[.int .i64 0] 3)) (.cells #[.int .i64 0] 41)
    rwa [World.size_alloc, World.size_alloc] at this
  have y5 : W4.heap[w.heap.size + 3]? = some (.cells #[.slice none 0 0] 51 (0, 0)) := by
    rw [hW4]
    have := heap_alloc_new (((w.alloc (.cells #[.slice none 0 0] 51)).alloc (.cells #[.int .i64 0] 3)).alloc (.cells #[.int .i64 0] 41)) (.cells #[.slice none 0 0] 51)
    rwa [World.size_alloc, World.size_alloc, World.size_alloc] at this
  have ALL := all_any B A l.length c l W4 (hr.below (hb4.mono hB)) (by omega)
  refine (callsIn_wide (n := 3)).1 (callsIn_of_wp_marks Tryd.func21 rfl trivial ?_ rfl)
  simp only [Tryd.ntmps21, List.size_toArray, List.length_cons, List.length_nil, Nat.reduceAdd, Nat.reduceSub, Array.replicate_succ, Array.replicate_zero, List.push_toArray, List.append_toArray, List.nil_append, List.cons_append]
  have HW4 := Lib_hid hW4
  clear hW4
  gi_wp2
  rw [← HW4.out]
  refine ⟨trivial, (callsIn_wide.2 ALL).mono ?_⟩
  rintro e w1 ⟨A1, c1, rfl, ho1, hb1⟩
  have hs1 := hb1.size
  have k2 := (hb1.block w.heap.size (by omega)).trans y2
  have k3 := (hb1.block (w.heap.size + 1) (by omega)).trans y3
  have k4 := (hb1.block (w.heap.size + 2) (by omega)).trans y4
  have k5 := (hb1.block (w.heap.size + 3) (by omega)).trans y5
  have hb := hb4.trans (hb1.mono hb4.size)
  have hT1 := hT.below hb hT.1
  have hcap := own_cap ho1
  have hA2 : ∀ ad, A1 = some ad → ad.block < w1.heap.size ∧ w.heap.size + 4 ≤ ad.block := by
    intro ad e
    obtain ⟨g, hg⟩ : ∃ g, (Value.slice A1 l.length c1).ownBlock = some g := by
      rcases ho1.2 with ⟨h, _⟩ | ⟨g, cap, cur, h, _⟩
      · rw [e] at h; cases h
      · rw [h]; exact ⟨g, rfl⟩
    have h1 := own_lt ho1 g hg
    have h2 := own_ge ho1 g hg
    rw [e] at hg
    simp [Value.ownBlock] at hg
    omega
  have hA1 := fun ad e => (hA2 ad e).1
  have hw0 := hT.1
  have hr1 := Rd.own ho1
  clear ALL y2 y3 y4 y5 hb4 hb1 HW4 hr
  gi_wp2
  refine range_tell (m := 3) rfl rfl hT1 hr1 hA1 hb8 hcap (by omega) (SpI w w1.heap.size) (SpIx w w1.heap.size) (fun s X Y r h g1 g2 hg => h.abide (by omega) g1 g2 hg) (fun cc s X Y r h g1 g2 hg => ⟨h.1, h.2.abide (by omega) g1 g2 hg⟩)
    ⟨⟨_, k5, PlK.nil _ _⟩, k2, k3, k4, by simp [Goods], hb⟩ ?round ?done ?stop
  case round =>
    intro pre x W0 W hI0 hgr hlt hox hpt
    have hI := hI0.abide (by omega) (by omega) (by omega) hgr
    obtain ⟨⟨v, e5, hP⟩, e2, e3, e4, hG, hbW⟩ := hI
    have hPl0 : ∀ k, PlIn v pre k → w1.heap.size + 3 ≤ k ∧ k < W0.heap.size := by
      obtain ⟨⟨v0, d5, dP⟩, _⟩ := hI0
      have d6 := (hgr.block _ (Array.getElem?_eq_some_iff.1 d5).1 (fun e => by injection e with e; omega)).trans d5
      rw [e5] at d6
      have : v = v0 := by simpa using d6
      subst this
      exact fun k hk => dP.lt hk
    have hdis : ∀ k, x.sl.ownBlock = some k → x.r = 0 → w1.heap.size + 3 ≤ k ∧ ¬ PlIn v pre k := by
      intro k hk h0
      have h1 := own_ge (hox h0).1 k hk
      refine ⟨by omega, fun hin0 => ?_⟩
      have := (hPl0 k hin0).2
      omega
    have hlen := hpt.len
    rw [List.length_append, List.length_singleton] at hlen
    simp only [Ev.enc, Ev.val]
    gi_wp2
    refine ⟨?_, fun w₂ hg2 => ?_⟩
    · exact ⟨by simp, fun k hk _ => heap_alloc_old W _ hk⟩
    have hW2 := hgr.size
    have hz2' := hg2.size
    rw [World.size_alloc] at hz2'
    have f5 : w₂.heap[w.heap.size + 3]? = some (.cells #[v] 51 (0, 0)) := (hg2.block _ (by simp; omega) (fun e => by injection e with e; omega)).trans ((heap_alloc_old W _ (by omega)).trans e5)
    have f2 := (hg2.block _ (by simp; omega) (fun e => by injection e with e; omega)).trans ((heap_alloc_old W _ (by omega)).trans e2)
    have f3 := (hg2.block _ (by simp; omega) (fun e => by injection e with e; omega)).trans ((heap_alloc_old W _ (by omega)).trans e3)
    have f4 := (hg2.block _ (by simp; omega) (fun e => by injection e with e; omega)).trans ((heap_alloc_old W _ (by omega)).trans e4)
    have fp := (hg2.block W.heap.size (by simp) (fun e => by injection e with e; omega)).trans (heap_alloc_new W _)
    have hP2 : PlK (w1.heap.size + 3) w₂ v pre.length pre := (hP.below (below_new W _)).grown hg2 (fun k hk e => by injection e with e; have := (hP.lt hk).1; omega)
    have hb2 : Below w.heap.size w w₂ := (hbW.alloc hbW.size _).grown hg2 (by simp; omega) (fun k hk => by injection hk with hk; omega)
    by_cases hx0 : x.r = 0
    · have hpay : PayOK w₂ (w1.heap.size + 3) x := by
        obtain ⟨o1, o2, o3⟩ := hox hx0
        refine ⟨own_base (own_keep (own_below o1 (below_new W _) (own_lt o1)) fun k hk => hg2.block k (by have := own_lt o1 k hk; simp; omega) (fun e => by injection e with e; have := (hdis k hk hx0).1; omega)) fun k hk => (hdis k hk hx0).1, o2, o3⟩
      obtain ⟨Av, cv, rfl, _⟩ := own_form hP2.row
      have cb5 : w₂.cell? ⟨w.heap.size + 1 + 1 + 1, 0, none⟩ = some (.slice Av pre.length cv) := cell_of_row w₂ _ 0 _ _ _ f5
      have p0 := cell_of_row w₂ _ 0 _ _ _ fp
      have p1 := cell_of_row w₂ _ 1 _ _ _ fp
      have p2 := cell_of_row w₂ _ 2 _ _ _ fp
      have p3 := cell_of_row w₂ _ 3 _ _ _ fp
      have hxr : ((x.r : Int) != 0) = false := by simp; omega
      have HP2 := Lib_hid hP2
      have hsB : w1.heap.size + 3 ≤ w₂.heap.size := by omega
      have hm1 : pre.length + 1 ≤ maxLen := by unfold maxLen; omega
      have hm2 : (pre.length + 1) * 48 ≤ 140737488355328 := by omega
      have F5 : ∀ w3, (w₂.alloc (.cells #[.int .u8 (x.k : Int), .slice x.A x.p.length x.c, .int .i64 (x.f : Int), .int .i64 (x.t : Int)] 59)).grownBy w3 (Value.slice Av pre.length cv).ownBlock → w3.heap[w.heap.size + 3]? = some (.cells #[.slice Av pre.length cv] 51 (0, 0)) := fun w3 hg3 =>
        (hg3.block _ (by simp; omega) (fun e => by have := (hP2.lt (.inl e.symm)).1; omega)).trans ((heap_alloc_old w₂ _ (by omega)).trans f5)
      have HF5 := Lib_hid F5
      clear F5 hP2 f5
      gi_wp2_with (gi_at_builtin; refine wpListIn_append_own_at _ rfl _ _ 51 rfl (w1.heap.size + 3) 59 i0 (.agg #[.int .u8 0, .slice none 0 0, .int .i64 0, .int .i64 0]) 4 48 Tryd.underlying51 hi hz0 hz1 hz2 rfl (by decide) _ pre.length _ rfl (HP2.out.row.alloc _) ⟨w₂.heap.size, 0, none⟩ 1 1 (plCells [x]) rfl rfl (pl_lit w₂ x _) (pl_one _) hm1 hm2 (by simp; omega) ?_; intro v' w3 hown' hg3 _ hor; obtain ⟨Av', cv', rfl, _⟩ := own_form hown'; have cb6 : w3.cell? ⟨w.heap.size + 1 + 1 + 1, 0, none⟩ = some (.slice Av pre.length cv) := cell_of_row w3 _ 0 _ _ _ (HF5.out w3 hg3); have fb6 : w3.frozen? ⟨w.heap.size + 1 + 1 + 1, 0, none⟩ = false := frozen_of_row w3 _ 0 _ _ (HF5.out w3 hg3))
      have hg4 := grown_set w3 (w.heap.size + 3) 0 (.slice Av' (pre.length + 1) cv')
      have hz3 := hg3.size
      rw [World.size_alloc] at hz3
      have hz4 := hg4.size
      have hP4 := HP2.out.below (below_new w₂ (.cells #[.int .u8 (x.k : Int), .slice x.A x.p.length x.c, .int .i64 (x.f : Int), .int .i64 (x.t : Int)] 59))
      have hpay4 : PayOK (w₂.alloc (.cells #[.int .u8 (x.k : Int), .slice x.A x.p.length x.c, .int .i64 (x.f : Int), .int .i64 (x.t : Int)] 59)) (w1.heap.size + 3) x := ⟨own_below hpay.1 (below_new w₂ _) (own_lt hpay.1), hpay.2⟩
      rw [← plCells_append] at hown'
      have hP5 := hP4.push hpay4 (fun k hk => (hdis k hk hx0).2) hown' hg3 (hor.imp id fun e => ⟨_, e, Nat.le_refl _⟩)
      have hP6 := hP5.grown hg4 (fun k hk e => by injection e with e; have := (hP5.lt hk).1; omega)
      have key : ∀ k, k < w₂.heap.size → k ≠ w.heap.size + 3 → k < w1.heap.size + 3 → (w3.setCell ⟨w.heap.size + 3, 0, none⟩ (.slice Av' (pre.length + 1) cv')).heap[k]? = w₂.heap[k]? := fun k h1 h2 h3 =>
        (hg4.block k (by omega) (fun e => by injection e with e; omega)).trans ((hg3.block k (by simp; omega) (fun e => by have := (HP2.out.lt (.inl e.symm)).1; omega)).trans (heap_alloc_old w₂ _ h1))
      refine ⟨⟨Nat.le_trans (Nat.le_of_succ_le hz3) hz4, fun k hk hx => key k hk ?_ ?_⟩, ⟨⟨_, Joins.block_setCell (HF5.out w3 hg3) _, by rw [List.length_append]; exact hP6⟩, (key _ (by omega) (by omega) (by omega)).trans f2, (key _ (by omega) (by omega) (by omega)).trans f3, (key _ (by omega) (by omega) (by omega)).trans f4, ?_, ?_⟩⟩
      · rcases hx with rfl | ⟨ad, e, rfl⟩ | hx
        · omega
        · have := (hA2 ad e).2; omega
        · omega
      · rcases hx with rfl | ⟨ad, e, rfl⟩ | hx
        · omega
        · have := (hA2 ad e).1; omega
        · omega
      · intro y hy
        rcases List.mem_append.1 hy with hy | hy
        · exact hG y hy
        · simp at hy; rw [hy]; exact hx0
      · exact ((hb2.alloc hb2.size _).grown hg3 (by simp; omega) (fun k hk => by have := (HP2.out.lt (.inl hk)).1; omega)).grown hg4 (by omega) (fun k hk => by injection hk with hk; omega)
    · have hxr : ((x.r : Int) != 0) = true := by simp; omega
      obtain ⟨gs, e, r, hr0, hpe, hGs, hsp⟩ : ∃ gs e r, r ≠ 0 ∧ pre ++ [x] = gs ++ [Ev.bad e r] ∧ Goods gs ∧ splitS l = (gs.map Ev.abs, e, r) := by
        rcases hpt with ⟨h1, _⟩ | ⟨gs, e, r, h1, h2, h3, h4⟩
        · exact absurd (h1 x (by simp)) hx0
        · exact ⟨gs, e, r, h1, h2, h3, h4⟩
      obtain ⟨rfl, hxe⟩ := List.append_inj' hpe rfl
      obtain rfl : x = Ev.bad e r := by simpa using hxe
      have cb5 : w₂.cell? ⟨w.heap.size + 1 + 1 + 1, 0, none⟩ = some v := cell_of_row w₂ _ 0 _ _ _ f5
      have p2 : w₂.cell? ⟨W.heap.size, 2, none⟩ = some (.int .i64 (e : Int)) := cell_of_row w₂ _ 2 _ _ _ fp
      have q2 : w₂.cell? ⟨w.heap.size, 0, none⟩ = some (.slice none 0 0) := cell_of_row w₂ _ 0 _ _ _ f2
      have q3 : w₂.cell? ⟨w.heap.size + 1, 0, none⟩ = some (.int .i64 0) := cell_of_row w₂ _ 0 _ _ _ f3
      have q4 : w₂.cell? ⟨w.heap.size + 1 + 1, 0, none⟩ = some (.int .i64 0) := cell_of_row w₂ _ 0 _ _ _ f4
      have z2 : w₂.frozen? ⟨w.heap.size, 0, none⟩ = false := frozen_of_row w₂ _ 0 _ _ f2
      have z3 : w₂.frozen? ⟨w.heap.size + 1, 0, none⟩ = false := frozen_of_row w₂ _ 0 _ _ f3
      have z4 : w₂.frozen? ⟨w.heap.size + 1 + 1, 0, none⟩ = false := frozen_of_row w₂ _ 0 _ _ f4
      obtain ⟨Av, cv, rfl, _⟩ := own_form hP2.row
      simp only [Ev.bad] at hxr ⊢
      have FIN : KeepD A1 w1.heap.size w₂ (((w₂.setCell ⟨w.heap.size, 0, none⟩ (.slice Av pre.length cv)).setCell ⟨w.heap.size + 1, 0, none⟩ (.int .i64 (e : Int))).setCell ⟨w.heap.size + 1 + 1, 0, none⟩ (.int .i64 (r : Int))).drew ∧
          SpIx w w1.heap.size .ret (pre ++ [⟨0, [], none, 0, e, 0, r⟩]) (((w₂.setCell ⟨w.heap.size, 0, none⟩ (.slice Av pre.length cv)).setCell ⟨w.heap.size + 1, 0, none⟩ (.int .i64 (e : Int))).setCell ⟨w.heap.size + 1 + 1, 0, none⟩ (.int .i64 (r : Int))).drew := by
        have g1 := grown_set w₂ w.heap.size 0 (.slice Av pre.length cv)
        have g2 := grown_set (w₂.setCell ⟨w.heap.size, 0, none⟩ (.slice Av pre.length cv)) (w.heap.size + 1) 0 (.int .i64 (e : Int))
        have g3 := grown_set ((w₂.setCell ⟨w.heap.size, 0, none⟩ (.slice Av pre.length cv)).setCell ⟨w.heap.size + 1, 0, none⟩ (.int .i64 (e : Int))) (w.heap.size + 2) 0 (.int .i64 (r : Int))
        have s1 := g1.size
        have s2 := g2.size
        have s3 := g3.size
        have b2 : (w₂.setCell ⟨w.heap.size, 0, none⟩ (.slice Av pre.length cv)).heap[w.heap.size]? = some (.cells #[.slice Av pre.length cv] 51 (0, 0)) := Joins.block_setCell f2 _
        have b3 := (g1.block (w.heap.size + 1) (by omega) (fun e => by injection e with e; omega)).trans f3
        have b4 := (g1.block (w.heap.size + 2) (by omega) (fun e => by injection e with e; omega)).trans f4
        have c2 := (g2.block w.heap.size (by omega) (fun e => by injection e with e; omega)).trans b2
        have c3 : ((w₂.setCell ⟨w.heap.size, 0, none⟩ (.slice Av pre.length cv)).setCell ⟨w.heap.size + 1, 0, none⟩ (.int .i64 (e : Int))).heap[w.heap.size + 1]? = some (.cells #[.int .i64 (e : Int)] 3 (0, 0)) := Joins.block_setCell b3 _
        have c4 := (g2.block (w.heap.size + 2) (by omega) (fun e => by injection e with e; omega)).trans b4
        have d2 := (g3.block w.heap.size (by omega) (fun e => by injection e with e; omega)).trans c2
        have d3 := (g3.block (w.heap.size + 1) (by omega) (fun e => by injection e with e; omega)).trans c3
        have d4 : (((w₂.setCell ⟨w.heap.size, 0, none⟩ (.slice Av pre.length cv)).setCell ⟨w.heap.size + 1, 0, none⟩ (.int .i64 (e : Int))).setCell ⟨w.heap.size + 2, 0, none⟩ (.int .i64 (r : Int))).heap[w.heap.size + 2]? = some (.cells #[.int .i64 (r : Int)] 41 (0, 0)) := Joins.block_setCell c4 _
        have hQ1 := hP2.grown g1 (fun k hk e => by injection e with e; have := (hP2.lt hk).1; omega)
        have hQ2 := hQ1.grown g2 (fun k hk e => by injection e with e; have := (hQ1.lt hk).1; omega)
        have hQ3 := hQ2.grown g3 (fun k hk e => by injection e with e; have := (hQ2.lt hk).1; omega)
        have hB3 := ((hb2.grown g1 (by omega) (fun k hk => by injection hk with hk; omega)).grown g2 (by omega) (fun k hk => by injection hk with hk; omega)).grown g3 (by omega) (fun k hk => by injection hk with hk; omega)
        refine ⟨⟨Nat.le_trans (Nat.le_trans s1 s2) s3, fun k hk hx => ?_⟩, rfl, ⟨⟨pre, e, r, _, hr0, rfl, hGs, d2, d3, d4, hQ3.keep fun _ _ => rfl⟩, below_like hB3 rfl rfl rfl rfl⟩⟩
        have hne : k ≠ w.heap.size ∧ k ≠ w.heap.size + 1 ∧ k ≠ w.heap.size + 2 := by
          rcases hx with rfl | ⟨ad, e, rfl⟩ | hx
          · omega
          · have := (hA2 ad e).2; omega
          · omega
        exact (g3.block k (by omega) (fun e => by injection e with e; omega)).trans ((g2.block k (by omega) (fun e => by injection e with e; omega)).trans (g1.block k hk (fun e => by injection e with e; omega)))
      have HFIN := Lib_hid FIN
      clear FIN hP2
      gi_wp2
      gi_region
      all_goals
        gi_wp2
        exact HFIN.out
  case done =>
    intro xs W hF hI hD
    obtain ⟨⟨v, e5, hP⟩, e2, e3, e4, hG, hbW⟩ := hI
    obtain ⟨Av, cv, rfl, _⟩ := own_form hP.row
    have hsp : splitS l = (xs.map Ev.abs, l.length, 0) := by
      rcases hF with ⟨_, h⟩ | ⟨gs, e, r, h1, rfl, _⟩
      · exact h
      · exact absurd (hG (Ev.bad e r) (by simp)) h1
    have cb5 : W.cell? ⟨w.heap.size + 1 + 1 + 1, 0, none⟩ = some (.slice Av xs.length cv) := cell_of_row W _ 0 _ _ _ e5
    have q2 : W.cell? ⟨w.heap.size, 0, none⟩ = some (.slice none 0 0) := cell_of_row W _ 0 _ _ _ e2
    have q3 : W.cell? ⟨w.heap.size + 1, 0, none⟩ = some (.int .i64 0) := cell_of_row W _ 0 _ _ _ e3
    have q4 : W.cell? ⟨w.heap.size + 1 + 1, 0, none⟩ = some (.int .i64 0) := cell_of_row W _ 0 _ _ _ e4
    have z2 : W.frozen? ⟨w.heap.size, 0, none⟩ = false := frozen_of_row W _ 0 _ _ e2
    have z3 : W.frozen? ⟨w.heap.size + 1, 0, none⟩ = false := frozen_of_row W _ 0 _ _ e3
    have z4 : W.frozen? ⟨w.heap.size + 1 + 1, 0, none⟩ = false := frozen_of_row W _ 0 _ _ e4
    have HP := Lib_hid hP
    have HSP := Lib_hid hsp
    have g1 := grown_set W w.heap.size 0 (.slice Av xs.length cv)
    have g2 := grown_set (W.setCell ⟨w.heap.size, 0, none⟩ (.slice Av xs.length cv)) (w.heap.size + 1) 0 (.int .i64 (l.length : Int))
    have g3 := grown_set ((W.setCell ⟨w.heap.size, 0, none⟩ (.slice Av xs.length cv)).setCell ⟨w.heap.size + 1, 0, none⟩ (.int .i64 (l.length : Int))) (w.heap.size + 2) 0 (.int .i64 0)
    have s1 := g1.size
    have s2 := g2.size
    have s3 := g3.size
    have hbz := hbW.size
    have hDl := (Array.getElem?_eq_some_iff.1 hD).1
    have b2 : (W.setCell ⟨w.heap.size, 0, none⟩ (.slice Av xs.length cv)).heap[w.heap.size]? = some (.cells #[.slice Av xs.length cv] 51 (0, 0)) := Joins.block_setCell e2 _
    have b3 := (g1.block (w.heap.size + 1) (by omega) (fun e => by injection e with e; omega)).trans e3
    have b4 := (g1.block (w.heap.size + 2) (by omega) (fun e => by injection e with e; omega)).trans e4
    have c2 := (g2.block w.heap.size (by omega) (fun e => by injection e with e; omega)).trans b2
    have c3 : ((W.setCell ⟨w.heap.size, 0, none⟩ (.slice Av xs.length cv)).setCell ⟨w.heap.size + 1, 0, none⟩ (.int .i64 (l.length : Int))).heap[w.heap.size + 1]? = some (.cells #[.int .i64 (l.length : Int)] 3 (0, 0)) := Joins.block_setCell b3 _
    have c4 := (g2.block (w.heap.size + 2) (by omega) (fun e => by injection e with e; omega)).trans b4
    have d2 := (g3.block w.heap.size (by omega) (fun e => by injection e with e; omega)).trans c2
    have d3 := (g3.block (w.heap.size + 1) (by omega) (fun e => by injection e with e; omega)).trans c3
    have d4 : (((W.setCell ⟨w.heap.size, 0, none⟩ (.slice Av xs.length cv)).setCell ⟨w.heap.size + 1, 0, none⟩ (.int .i64 (l.length : Int))).setCell ⟨w.heap.size + 2, 0, none⟩ (.int .i64 0)).heap[w.heap.size + 2]? = some (.cells #[.int .i64 0] 41 (0, 0)) := Joins.block_setCell c4 _
    have hQ1 := hP.grown g1 (fun k hk e => by injection e with e; have := (hP.lt hk).1; omega)
    have hQ2 := hQ1.grown g2 (fun k hk e => by injection e with e; have := (hQ1.lt hk).1; omega)
    have hQ3 := hQ2.grown g3 (fun k hk e => by injection e with e; have := (hQ2.lt hk).1; omega)
    have hB3 := ((hbW.grown g1 (by omega) (fun k hk => by injection hk with hk; omega)).grown g2 (by omega) (fun k hk => by injection hk with hk; omega)).grown g3 (by omega) (fun k hk => by injection hk with hk; omega)
    have hD3 := (g3.block w1.heap.size (by omega) (fun e => by injection e with e; omega)).trans ((g2.block w1.heap.size (by omega) (fun e => by injection e with e; omega)).trans ((g1.block w1.heap.size (by omega) (fun e => by injection e with e; omega)).trans hD))
    have FE := split_fin (l := l) (w := w) (H := w1.heap.size) _ xs l.length 0 (by omega) d2 d3 d4 hQ3 hB3 hsp hD3
    have HFE := Lib_hid FE
    clear hP hsp g1 g2 g3 s1 s2 s3 b2 b3 b4 c2 c3 c4 d2 d3 d4 hQ1 hQ2 hQ3 hB3 hD3 FE hbz hDl
    gi_wp2
    exact HFE.out _ rfl rfl rfl
  case stop =>
    rintro cc pre W hPt ⟨rfl, ⟨⟨gs, e, r, v, hr0, rfl, hGs, d2, d3, d4, hP⟩, hbW⟩⟩ hD
    have HFE := Lib_hid (split_fin (l := l) (w := w) (H := w1.heap.size) v gs e r (by omega) d2 d3 d4 hP hbW (by
      rcases hPt with ⟨h1, _⟩ | ⟨gs', e', r', h1, h2, h3, h4⟩
      · exact absurd (h1 (Ev.bad e r) (by simp)) hr0
      · obtain ⟨rfl, h5⟩ := List.append_inj' h2 rfl
        simp [Ev.bad] at h5
        obtain ⟨rfl, rfl⟩ := h5
        exact h4) hD)
    clear d2 d3 d4 hP hbW hPt
    gi_wp2
    exact HFE.out _ rfl rfl rfl

end Go.Proofs.YtedglcbeheeonaaDoor
