/-
  Layer 4: two trees told to the document, and put into boxes, in any order: what holds on the way.
-/
import Derived.Test.YtpbmgbeiieapiaaGreatDoorIny
import Derived.Test.YtpbmgbeiieapiaaGreatDoorTex
namespace Go.Proofs.YtpbmgbeiieapiaaGreatDoor
open Go Go.RowKit
set_option linter.unusedVariables false

/-- On the way: the operations' values (slots 25 to 28, the boxes 9 and 10). -/
structure P3 (w3 : World) (pv qv : Value) (tp tq : T) (a0 : Act) (L : Nat → Bool) (a : Act) (w : World) (g9 g10 l1 h1 l2 h2 : Nat) (u r : V) : Prop where
  size : a.tmps.size = a0.tmps.size
  defers : a.defers = a0.defers
  other : ∀ s, s ≠ 25 → s ≠ 26 → s ≠ 27 → s ≠ 28 → s ≠ 9 → s ≠ 10 → a.tmps.getD s undef = a0.tmps.getD s undef
  below : Below w3.heap.size w3 w
  o0 : L 0 = true → a.tmps.getD 25 undef = pv
  o2 : L 2 = true → a.tmps.getD 27 undef = qv
  o1 : L 1 = true → a.tmps.getD 26 undef = (.agg #[.int .i64 u.kind, .int .u64 (u.a : Int), .int .u64 (u.b : Int), .slice u.addr u.parts.length u.cap]) ∧ u.abs = tp ∧ Lies w l1 h1 u ∧ w3.heap.size ≤ l1 ∧ h1 ≤ w.heap.size
  o3 : L 3 = true → a.tmps.getD 28 undef = (.agg #[.int .i64 r.kind, .int .u64 (r.a : Int), .int .u64 (r.b : Int), .slice r.addr r.parts.length r.cap]) ∧ r.abs = tq ∧ Lies w l2 h2 r ∧ w3.heap.size ≤ l2 ∧ h2 ≤ w.heap.size
  o4 : L 4 = true → a.tmps.getD 9 undef = .pointer (some ⟨g9, 0, none⟩) ∧ w3.heap.size ≤ g9 ∧ ∃ x0 x1 x2 x3, w.heap[g9]? = some (.cells #[x0, x1, x2, x3] 30 (0, 0))
  o5 : L 5 = true → a.tmps.getD 10 undef = .pointer (some ⟨g10, 0, none⟩) ∧ w3.heap.size ≤ g10 ∧ ∃ x0 x1 x2 x3, w.heap[g10]? = some (.cells #[x0, x1, x2, x3] 30 (0, 0))
  d14 : L 1 = true → L 4 = true → g9 < l1 ∨ h1 ≤ g9
  d34 : L 3 = true → L 4 = true → g9 < l2 ∨ h2 ≤ g9
  d15 : L 1 = true → L 5 = true → g10 < l1 ∨ h1 ≤ g10
  d35 : L 3 = true → L 5 = true → g10 < l2 ∨ h2 ≤ g10
  d45 : L 4 = true → L 5 = true → g9 ≠ g10
  o6 : L 6 = true → L 4 = true ∧ L 1 = true ∧ w.heap[g9]? = some (.cells #[.int .i64 u.kind, .int .u64 (u.a : Int), .int .u64 (u.b : Int), .slice u.addr u.parts.length u.cap] 30 (0, 0))
  o7 : L 7 = true → L 5 = true ∧ L 3 = true ∧ w.heap[g10]? = some (.cells #[.int .i64 r.kind, .int .u64 (r.a : Int), .int .u64 (r.b : Int), .slice r.addr r.parts.length r.cap] 30 (0, 0))

section
variable {w3 : World} {pv qv : Value} {tp tq : T} {a0 : Act} {L : Nat → Bool} {a : Act} {w w' : World} {g9 g10 l1 h1 l2 h2 : Nat} {u r : V}
theorem lt_of_block {W : World} {g : Nat} {o : Obj} (h : W.heap[g]? = some o) : g < W.heap.size := (Array.getElem?_eq_some_iff.1 h).1
theorem P3.grow (h : P3 w3 pv qv tp tq a0 L a w g9 g10 l1 h1 l2 h2 u r) (hb : Below w.heap.size w w') : P3 w3 pv qv tp tq a0 L a w' g9 g10 l1 h1 l2 h2 u r := by
  have kp : ∀ {g : Nat} {o : Obj}, w.heap[g]? = some o → w'.heap[g]? = some o := fun {g o} e => (hb.block g (lt_of_block e)).trans e
  refine ⟨h.size, h.defers, h.other, h.below.trans (hb.mono h.below.size), h.o0, h.o2, fun k => ?_, fun k => ?_, fun k => ?_, fun k => ?_, h.d14, h.d34, h.d15, h.d35, h.d45, fun k => ?_, fun k => ?_⟩
  · obtain ⟨e1, e2, e3, e4, e5⟩ := h.o1 k; exact ⟨e1, e2, e3.under (hb.mono e5), e4, Nat.le_trans e5 hb.size⟩
  · obtain ⟨e1, e2, e3, e4, e5⟩ := h.o3 k; exact ⟨e1, e2, e3.under (hb.mono e5), e4, Nat.le_trans e5 hb.size⟩
  · obtain ⟨e1, e2, x0, x1, x2, x3, e3⟩ := h.o4 k; exact ⟨e1, e2, x0, x1, x2, x3, kp e3⟩
  · obtain ⟨e1, e2, x0, x1, x2, x3, e3⟩ := h.o5 k; exact ⟨e1, e2, x0, x1, x2, x3, kp e3⟩
  · obtain ⟨e1, e2, e3⟩ := h.o6 k; exact ⟨e1, e2, kp e3⟩
  · obtain ⟨e1, e2, e3⟩ := h.o7 k; exact ⟨e1, e2, kp e3⟩
theorem P3.op0 (h : P3 w3 pv qv tp tq a0 L a w g9 g10 l1 h1 l2 h2 u r) (hs : a0.tmps.size = 135) : P3 w3 pv qv tp tq a0 (more L 0) (a.put (some 25) pv) w g9 g10 l1 h1 l2 h2 u r := by
  refine ⟨put_size.trans h.size, put_defers'.trans h.defers, fun s k1 k2 k3 k4 k5 k6 => (put_getD_ne (fun e => k1 (by injection e with e; exact e.symm))).trans (h.other s k1 k2 k3 k4 k5 k6), h.below, fun _ => put_getD_eq (by rw [h.size, hs]; decide), fun k => (put_getD_ne (by decide)).trans (h.o2 k), fun k => ?_, fun k => ?_, fun k => ?_, fun k => ?_, h.d14, h.d34, h.d15, h.d35, h.d45, h.o6, h.o7⟩
  · rw [put_getD_ne (by decide)]; exact h.o1 k
  · rw [put_getD_ne (by decide)]; exact h.o3 k
  · rw [put_getD_ne (by decide)]; exact h.o4 k
  · rw [put_getD_ne (by decide)]; exact h.o5 k
theorem P3.op2 (h : P3 w3 pv qv tp tq a0 L a w g9 g10 l1 h1 l2 h2 u r) (hs : a0.tmps.size = 135) : P3 w3 pv qv tp tq a0 (more L 2) (a.put (some 27) qv) w g9 g10 l1 h1 l2 h2 u r := by
  refine ⟨put_size.trans h.size, put_defers'.trans h.defers, fun s k1 k2 k3 k4 k5 k6 => (put_getD_ne (fun e => k3 (by injection e with e; exact e.symm))).trans (h.other s k1 k2 k3 k4 k5 k6), h.below, fun k => (put_getD_ne (by decide)).trans (h.o0 k), fun _ => put_getD_eq (by rw [h.size, hs]; decide), fun k => ?_, fun k => ?_, fun k => ?_, fun k => ?_, h.d14, h.d34, h.d15, h.d35, h.d45, h.o6, h.o7⟩
  · rw [put_getD_ne (by decide)]; exact h.o1 k
  · rw [put_getD_ne (by decide)]; exact h.o3 k
  · rw [put_getD_ne (by decide)]; exact h.o4 k
  · rw [put_getD_ne (by decide)]; exact h.o5 k
theorem P3.op1 {u' : V} (h : P3 w3 pv qv tp tq a0 L a w g9 g10 l1 h1 l2 h2 u' r) (hs : a0.tmps.size = 135) (h0 : L 1 = false) (hb : Below w.heap.size w w') (hu : u.abs = tp) (hL : Lies w' w.heap.size w'.heap.size u) :
    P3 w3 pv qv tp tq a0 (more L 1) (a.put (some 26) (.agg #[.int .i64 u.kind, .int .u64 (u.a : Int), .int .u64 (u.b : Int), .slice u.addr u.parts.length u.cap])) w' g9 g10 w.heap.size w'.heap.size l2 h2 u r := by
  have g := h.grow hb
  have hb9 : ∀ {k : L 4 = true}, g9 < w.heap.size := fun {k} => by obtain ⟨_, _, x0, x1, x2, x3, e⟩ := h.o4 k; exact lt_of_block e
  have hb10 : ∀ {k : L 5 = true}, g10 < w.heap.size := fun {k} => by obtain ⟨_, _, x0, x1, x2, x3, e⟩ := h.o5 k; exact lt_of_block e
  refine ⟨put_size.trans h.size, put_defers'.trans h.defers, fun s k1 k2 k3 k4 k5 k6 => (put_getD_ne (fun e => k2 (by injection e with e; exact e.symm))).trans (h.other s k1 k2 k3 k4 k5 k6), g.below, fun k => (put_getD_ne (by decide)).trans (h.o0 k), fun k => (put_getD_ne (by decide)).trans (h.o2 k), fun _ => ⟨put_getD_eq (by rw [h.size, hs]; decide), hu, hL, h.below.size, Nat.le_refl _⟩, fun k => ?_, fun k => ?_, fun k => ?_, fun _ k => .inl (hb9 (k := k)), h.d34, fun _ k => .inl (hb10 (k := k)), h.d35, h.d45, fun k => ?_, fun k => g.o7 k⟩
  · rw [put_getD_ne (by decide)]; exact g.o3 k
  · rw [put_getD_ne (by decide)]; exact g.o4 k
  · rw [put_getD_ne (by decide)]; exact g.o5 k
  · have := (h.o6 k).2.1; rw [h0] at this; cases this
theorem P3.op3 {r' : V} (h : P3 w3 pv qv tp tq a0 L a w g9 g10 l1 h1 l2 h2 u r') (hs : a0.tmps.size = 135) (h0 : L 3 = false) (hb : Below w.heap.size w w') (hr : r.abs = tq) (hL : Lies w' w.heap.size w'.heap.size r) :
    P3 w3 pv qv tp tq a0 (more L 3) (a.put (some 28) (.agg #[.int .i64 r.kind, .int .u64 (r.a : Int), .int .u64 (r.b : Int), .slice r.addr r.parts.length r.cap])) w' g9 g10 l1 h1 w.heap.size w'.heap.size u r := by
  have g := h.grow hb
  have hb9 : ∀ {k : L 4 = true}, g9 < w.heap.size := fun {k} => by obtain ⟨_, _, x0, x1, x2, x3, e⟩ := h.o4 k; exact lt_of_block e
  have hb10 : ∀ {k : L 5 = true}, g10 < w.heap.size := fun {k} => by obtain ⟨_, _, x0, x1, x2, x3, e⟩ := h.o5 k; exact lt_of_block e
  refine ⟨put_size.trans h.size, put_defers'.trans h.defers, fun s k1 k2 k3 k4 k5 k6 => (put_getD_ne (fun e => k4 (by injection e with e; exact e.symm))).trans (h.other s k1 k2 k3 k4 k5 k6), g.below, fun k => (put_getD_ne (by decide)).trans (h.o0 k), fun k => (put_getD_ne (by decide)).trans (h.o2 k), fun k => ?_, fun _ => ⟨put_getD_eq (by rw [h.size, hs]; decide), hr, hL, h.below.size, Nat.le_refl _⟩, fun k => ?_, fun k => ?_, h.d14, fun _ k => .inl (hb9 (k := k)), h.d15, fun _ k => .inl (hb10 (k := k)), h.d45, fun k => g.o6 k, fun k => ?_⟩
  · rw [put_getD_ne (by decide)]; exact g.o1 k
  · rw [put_getD_ne (by decide)]; exact g.o4 k
  · rw [put_getD_ne (by decide)]; exact g.o5 k
  · have := (h.o7 k).2.1; rw [h0] at this; cases this
theorem P3.op4 {g9' : Nat} (h : P3 w3 pv qv tp tq a0 L a w g9' g10 l1 h1 l2 h2 u r) (hs : a0.tmps.size = 135) (h0 : L 4 = false) (z0 z1 z2 z3 : Value) :
    P3 w3 pv qv tp tq a0 (more L 4) (a.put (some 9) (.pointer (some ⟨w.heap.size, 0, none⟩))) (w.alloc (.cells #[z0, z1, z2, z3] 30)) w.heap.size g10 l1 h1 l2 h2 u r := by
  have g := h.grow (below_new w (.cells #[z0, z1, z2, z3] 30))
  refine ⟨put_size.trans h.size, put_defers'.trans h.defers, fun s k1 k2 k3 k4 k5 k6 => (put_getD_ne (fun e => k5 (by injection e with e; exact e.symm))).trans (h.other s k1 k2 k3 k4 k5 k6), g.below, fun k => (put_getD_ne (by decide)).trans (h.o0 k), fun k => (put_getD_ne (by decide)).trans (h.o2 k), fun k => ?_, fun k => ?_, fun _ => ⟨put_getD_eq (by rw [h.size, hs]; decide), h.below.size, z0, z1, z2, z3, heap_alloc_new w _⟩, fun k => ?_, fun k _ => .inr (h.o1 k).2.2.2.2, fun k _ => .inr (h.o3 k).2.2.2.2, h.d15, h.d35, fun _ k => ?_, fun k => ?_, fun k => g.o7 k⟩
  · rw [put_getD_ne (by decide)]; exact g.o1 k
  · rw [put_getD_ne (by decide)]; exact g.o3 k
  · rw [put_getD_ne (by decide)]; exact g.o5 k
  · obtain ⟨_, _, x0, x1, x2, x3, e⟩ := h.o5 k; have := lt_of_block e; omega
  · have := (h.o6 k).1; rw [h0] at this; cases this
theorem P3.op5 {g10' : Nat} (h : P3 w3 pv qv tp tq a0 L a w g9 g10' l1 h1 l2 h2 u r) (hs : a0.tmps.size = 135) (h0 : L 5 = false) (z0 z1 z2 z3 : Value) :
    P3 w3 pv qv tp tq a0 (more L 5) (a.put (some 10) (.pointer (some ⟨w.heap.size, 0, none⟩))) (w.alloc (.cells #[z0, z1, z2, z3] 30)) g9 w.heap.size l1 h1 l2 h2 u r := by
  have g := h.grow (below_new w (.cells #[z0, z1, z2, z3] 30))
  refine ⟨put_size.trans h.size, put_defers'.trans h.defers, fun s k1 k2 k3 k4 k5 k6 => (put_getD_ne (fun e => k6 (by injection e with e; exact e.symm))).trans (h.other s k1 k2 k3 k4 k5 k6), g.below, fun k => (put_getD_ne (by decide)).trans (h.o0 k), fun k => (put_getD_ne (by decide)).trans (h.o2 k), fun k => ?_, fun k => ?_, fun k => ?_, fun _ => ⟨put_getD_eq (by rw [h.size, hs]; decide), h.below.size, z0, z1, z2, z3, heap_alloc_new w _⟩, h.d14, h.d34, fun k _ => .inr (h.o1 k).2.2.2.2, fun k _ => .inr (h.o3 k).2.2.2.2, fun k _ => ?_, fun k => g.o6 k, fun k => ?_⟩
  · rw [put_getD_ne (by decide)]; exact g.o1 k
  · rw [put_getD_ne (by decide)]; exact g.o3 k
  · rw [put_getD_ne (by decide)]; exact g.o4 k
  · obtain ⟨_, _, x0, x1, x2, x3, e⟩ := h.o4 k; have := lt_of_block e; omega
  · have := (h.o7 k).1; rw [h0] at this; cases this
theorem P3.store (h : P3 w3 pv qv tp tq a0 L a w g9 g10 l1 h1 l2 h2 u r) {g : Nat} {x0 x1 x2 x3 : Value} (y0 y1 y2 y3 : Value) (hg : w.heap[g]? = some (.cells #[x0, x1, x2, x3] 30 (0, 0))) (hg3 : w3.heap.size ≤ g) (h1g : L 1 = true → g < l1 ∨ h1 ≤ g) (h3g : L 3 = true → g < l2 ∨ h2 ≤ g)
    (h6 : L 6 = true → g ≠ g9) (h7 : L 7 = true → g ≠ g10) : P3 w3 pv qv tp tq a0 L a (put4 w g y0 y1 y2 y3) g9 g10 l1 h1 l2 h2 u r := by
  have hr := put4_row hg y0 y1 y2 y3
  refine ⟨h.size, h.defers, h.other, put4_below h.below hg3 _ _ _ _, h.o0, h.o2, fun k => ?_, fun k => ?_, fun k => ?_, fun k => ?_, h.d14, h.d34, h.d15, h.d35, h.d45, fun k => ?_, fun k => ?_⟩
  · obtain ⟨e1, e2, e3, e4, e5⟩ := h.o1 k
    exact ⟨e1, e2, e3.keep fun p k1 k2 => World.cell?_of_block (put4_else w (by have := h1g k; omega) _ _ _ _), e4, by rw [put4_size]; exact e5⟩
  · obtain ⟨e1, e2, e3, e4, e5⟩ := h.o3 k
    exact ⟨e1, e2, e3.keep fun p k1 k2 => World.cell?_of_block (put4_else w (by have := h3g k; omega) _ _ _ _), e4, by rw [put4_size]; exact e5⟩
  · obtain ⟨e1, e2, v0, v1, v2, v3, e3⟩ := h.o4 k
    by_cases e : g9 = g
    · subst e; exact ⟨e1, e2, _, _, _, _, hr⟩
    · exact ⟨e1, e2, v0, v1, v2, v3, (put4_else w e _ _ _ _).trans e3⟩
  · obtain ⟨e1, e2, v0, v1, v2, v3, e3⟩ := h.o5 k
    by_cases e : g10 = g
    · subst e; exact ⟨e1, e2, _, _, _, _, hr⟩
    · exact ⟨e1, e2, v0, v1, v2, v3, (put4_else w e _ _ _ _).trans e3⟩
  · obtain ⟨e1, e2, e3⟩ := h.o6 k; exact ⟨e1, e2, (put4_else w (fun e => h6 k e.symm) _ _ _ _).trans e3⟩
  · obtain ⟨e1, e2, e3⟩ := h.o7 k; exact ⟨e1, e2, (put4_else w (fun e => h7 k e.symm) _ _ _ _).trans e3⟩
theorem P3.op6 (h : P3 w3 pv qv tp tq a0 L a w g9 g10 l1 h1 l2 h2 u r) (h0 : L 6 = false) (k1 : L 1 = true) (k4 : L 4 = true) (k5 : L 5 = true) :
    P3 w3 pv qv tp tq a0 (more L 6) a (put4 w g9 (.int .i64 u.kind) (.int .u64 (u.a : Int)) (.int .u64 (u.b : Int)) (.slice u.addr u.parts.length u.cap)) g9 g10 l1 h1 l2 h2 u r := by
  obtain ⟨_, e2, x0, x1, x2, x3, e3⟩ := h.o4 k4
  have g := h.store (.int .i64 u.kind) (.int .u64 (u.a : Int)) (.int .u64 (u.b : Int)) (.slice u.addr u.parts.length u.cap) e3 e2 (fun k => h.d14 k k4) (fun k => h.d34 k k4) (fun k => by rw [h0] at k; cases k) (fun _ => h.d45 k4 k5)
  exact ⟨g.size, g.defers, g.other, g.below, g.o0, g.o2, g.o1, g.o3, g.o4, g.o5, g.d14, g.d34, g.d15, g.d35, g.d45, fun _ => ⟨k4, k1, put4_row e3 _ _ _ _⟩, g.o7⟩
theorem P3.op7 (h : P3 w3 pv qv tp tq a0 L a w g9 g10 l1 h1 l2 h2 u r) (h0 : L 7 = false) (k3 : L 3 = true) (k4 : L 4 = true) (k5 : L 5 = true) :
    P3 w3 pv qv tp tq a0 (more L 7) a (put4 w g10 (.int .i64 r.kind) (.int .u64 (r.a : Int)) (.int .u64 (r.b : Int)) (.slice r.addr r.parts.length r.cap)) g9 g10 l1 h1 l2 h2 u r := by
  obtain ⟨_, e2, x0, x1, x2, x3, e3⟩ := h.o5 k5
  have g := h.store (.int .i64 r.kind) (.int .u64 (r.a : Int)) (.int .u64 (r.b : Int)) (.slice r.addr r.parts.length r.cap) e3 e2 (fun k => h.d15 k k5) (fun k => h.d35 k k5) (fun _ e => h.d45 k4 k5 e.symm) (fun k => by rw [h0] at k; cases k)
  exact ⟨g.size, g.defers, g.other, g.below, g.o0, g.o2, g.o1, g.o3, g.o4, g.o5, g.d14, g.d34, g.d15, g.d35, g.d45, g.o6, fun _ => ⟨k5, k3, put4_row e3 _ _ _ _⟩⟩
end

theorem act_eq {a b : Act} (h1 : a.tmps.size = b.tmps.size) (h2 : a.defers = b.defers) (h3 : ∀ s, a.tmps.getD s undef = b.tmps.getD s undef) : a = b := by
  obtain ⟨t, d⟩ := a
  obtain ⟨t', d'⟩ := b
  simp only at h1 h2 h3
  subst h2
  have : t = t' := by
    apply Array.ext h1
    intro i hi hi'
    have := h3 i
    rw [Array.getD_eq_getD_getElem?, Array.getD_eq_getD_getElem?, Array.getElem?_eq_getElem hi, Array.getElem?_eq_getElem hi'] at this
    simpa using this
  rw [this]
theorem P3.act {w3 : World} {pv qv : Value} {tp tq : T} {a0 : Act} {L : Nat → Bool} {a : Act} {w : World} {g9 g10 l1 h1 l2 h2 : Nat} {u r : V} (h : P3 w3 pv qv tp tq a0 L a w g9 g10 l1 h1 l2 h2 u r) (hs : a0.tmps.size = 135) (hL : ∀ i, i < 8 → L i = true) :
    a = (((((a0.put (some 25) pv).put (some 26) (.agg #[.int .i64 u.kind, .int .u64 (u.a : Int), .int .u64 (u.b : Int), .slice u.addr u.parts.length u.cap])).put (some 27) qv).put (some 28) (.agg #[.int .i64 r.kind, .int .u64 (r.a : Int), .int .u64 (r.b : Int), .slice r.addr r.parts.length r.cap])).put (some 9) (.pointer (some ⟨g9, 0, none⟩))).put (some 10) (.pointer (some ⟨g10, 0, none⟩)) := by
  have k0 := h.o0 (hL 0 (by omega))
  have k1 := (h.o1 (hL 1 (by omega))).1
  have k2 := h.o2 (hL 2 (by omega))
  have k3 := (h.o3 (hL 3 (by omega))).1
  have k4 := (h.o4 (hL 4 (by omega))).1
  have k5 := (h.o5 (hL 5 (by omega))).1
  refine act_eq ?_ ?_ fun s => ?_
  · rw [put_size, put_size, put_size, put_size, put_size, put_size]; exact h.size
  · rw [put_defers', put_defers', put_defers', put_defers', put_defers', put_defers']; exact h.defers
  · by_cases e10 : s = 10
    · subst e10
      rw [put_getD_eq (by rw [put_size, put_size, put_size, put_size, put_size, hs]; decide)]
      exact k5
    rw [put_getD_ne (fun e => e10 (by injection e with e; exact e.symm))]
    by_cases e9 : s = 9
    · subst e9
      rw [put_getD_eq (by rw [put_size, put_size, put_size, put_size, hs]; decide)]
      exact k4
    rw [put_getD_ne (fun e => e9 (by injection e with e; exact e.symm))]
    by_cases e28 : s = 28
    · subst e28
      rw [put_getD_eq (by rw [put_size, put_size, put_size, hs]; decide)]
      exact k3
    rw [put_getD_ne (fun e => e28 (by injection e with e; exact e.symm))]
    by_cases e27 : s = 27
    · subst e27
      rw [put_getD_eq (by rw [put_size, put_size, hs]; decide)]
      exact k2
    rw [put_getD_ne (fun e => e27 (by injection e with e; exact e.symm))]
    by_cases e26 : s = 26
    · subst e26
      rw [put_getD_eq (by rw [put_size, hs]; decide)]
      exact k1
    rw [put_getD_ne (fun e => e26 (by injection e with e; exact e.symm))]
    by_cases e25 : s = 25
    · subst e25
      rw [put_getD_eq (by rw [hs]; decide)]
      exact k0
    rw [put_getD_ne (fun e => e25 (by injection e with e; exact e.symm))]
    exact h.other s e25 e26 e27 e28 e9 e10

end Go.Proofs.YtpbmgbeiieapiaaGreatDoor
