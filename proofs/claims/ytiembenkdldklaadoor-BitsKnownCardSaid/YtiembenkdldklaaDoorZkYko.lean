/-
  An append of one value that leaves the old row as it was. No program is named here.
  Layer 8: BitsKnown: rows of numbers that grow, and what was a part of them; acts that hold such parts.
  Layer 8: BitsKnown: the walk.
-/
import Derived.Test.YtiembenkdldklaaDoorMem
import Derived.BigFrame
import Derived.Test.YtiembenkdldklaaDoorZkYpz
import Derived.Test.YtiembenkdldklaaDoorYnn
import Derived.Test.YtiembenkdldklaaDoorYho
import Derived.Test.YtiembenkdldklaaDoorYsw

namespace Go.Proofs.YtiembenkdldklaaDoor
open Go Go.RowKit
set_option linter.unusedVariables false

section
variable {P : Program}
/-- An append of one value leaves the old row as it was. -/
theorem run_app_keep (w : World) (base : Nat) (t ty e : TypeId) (i : TypeInfo) (z : Value) (size bytes : Nat) (ht : P.underlying t = some (.slice e)) (hi : P.info? e = some i) (hz : i.zero = some z)
    (hsize : i.size = size) (hby : i.bytes = bytes) (hzs : z.cells.size = size)
    (v : Value) (n : Nat) (xs : List Value) (hown : w.ownsRow base e size v n xs)
    (ad : Addr) (m c : Nat) (news : List Value) (hl : news.length = m * size) (hnews : ∀ j u, news[j]? = some u → w.cell? (ad.add j) = some u) (h1 : ∀ u ∈ news, u.oneCell' = true)
    (h63 : n + m ≤ maxLen) (hbytes : (n + m) * bytes ≤ 140737488355328) {v' : Value} {w' : World} (hr : (Builtin.append_ #[t, t] ty #[v, .slice (some ad) m c]).run P w = .ok v' w') : w'.ownsRow base e size v n xs := by
  subst hsize
  subst hby
  rcases hown.2 with ⟨rfl, rfl⟩ | ⟨g, cap, cur, rfl, hbg, hg, hnc, hcm, hcs, htake⟩
  · exact ⟨hown.1, .inl ⟨rfl, rfl⟩⟩
  · by_cases hroom : n + m ≤ cap
    · have hfit : n * i.size + news.length ≤ cur.size := by rw [hl, hcs, ← Nat.add_mul]; exact Nat.mul_le_mul_right _ hroom
      have hr2 := run_append_room (P := P) w t ty e i ht hi g n cap cur hg ad m c news hl hnews h1 hroom hfit
      rw [hr2] at hr
      injection hr with _ hw
      subst hw
      refine ⟨hown.1, .inr ⟨g, cap, _, rfl, hbg, setRow_heap w g cur _ e _ hg, hnc, hcm, ?_, ?_⟩⟩
      · simp only [List.size_toArray, List.length_append, List.length_take, List.length_drop, Array.length_toList]
        omega
      · have hxl : (cur.toList.take (n * i.size)).length = n * i.size := by rw [htake]; exact hown.1
        simp only [List.append_assoc]
        rw [List.take_append_of_le_length (by rw [hxl]; exact Nat.le_refl _), List.take_of_length_le (by rw [hxl]; exact Nat.le_refl _)]
        exact htake
    · have holds : ∀ j u, xs[j]? = some u → w.cell? ((⟨g, 0, none⟩ : Addr).add j) = some u := hown.cells (g := g) rfl
      have hsmall : n + m ≤ 9223372036854775807 := by simp only [maxLen] at h63; omega
      have hr2 := run_append_grow (P := P) w t ty e i z ht hi hz ⟨g, 0, none⟩ n cap xs hown.1 holds ad m c news hl hnews (by omega) (by omega) (growslice_fits (by omega) hbytes)
      rw [hr2] at hr
      injection hr with _ hw
      subst hw
      refine own_keep hown fun k hk => heap_alloc_old w.drew _ ?_
      exact own_lt hown k hk

theorem wpList_appk {w : World} {ops : Array Oper} {rest : List Oper} {o : Oper} {a : Act} {Q : Exit → Act → World → Prop} (hgd : Region.wanted o (yielded ops a.tmps) = true) (s x : Operand) (t : TypeId)
    (ho : o.op = .call { callee := .builtin .append, args := #[s, x], argTypes := #[t, t] })
    (base : Nat) (e : TypeId) (i : TypeInfo) (z : Value) (size bytes : Nat) (ht : P.underlying t = some (.slice e)) (hi : P.info? e = some i) (hz : i.zero = some z)
    (hsize : i.size = size) (hby : i.bytes = bytes) (hzs : z.cells.size = size) (hsz : 0 < size)
    (v : Value) (n : Nat) (xs : List Value) (hs : a.eval s = v) (hown : w.ownsRow base e size v n xs)
    (B : Nat) (ad : Addr) (m c : Nat) (news : List Value) (hx : a.eval x = .slice (some ad) m c) (hr : Rd w B size (some ad) m news) (hm : 0 < m) (h1 : ∀ u ∈ news, u.oneCell' = true)
    (h63 : n + m ≤ maxLen) (hbytes : (n + m) * bytes ≤ 140737488355328) (hbase : base ≤ w.heap.size)
    (h : ∀ v' w', w'.ownsRow base e size v' (n + m) (xs ++ news) → Stp w w' v v' → w'.ownsRow base e size v n xs → wpList P ops Q rest (a.put o.dst v') w') : wpList P ops Q (o :: rest) a w := by
  refine Go.BigFrame.wpList_want hgd fun _ hK => ?_
  obtain ⟨v', w', hrun, h2, h3⟩ := run_app (P := P) w base t o.type e i z size bytes ht hi hz hsize hby hzs hsz v n xs hown B (some ad) m c news hr h1 h63 hbytes hbase
  have hc : ∀ j u, news[j]? = some u → w.cell? (ad.add j) = some u := by
    obtain ⟨ad2, e2, _, hc⟩ := hr.lies hm
    injection e2 with e2
    subst e2
    exact hc
  have hk := run_app_keep (P := P) w base t o.type e i z size bytes ht hi hz hsize hby hzs v n xs hown ad m c news hr.len hc h1 h63 hbytes hrun
  unfold Oper.wp execOp
  simp only [ho, resolve, invoke, builtin, Sem.run_bind, Sem.run_pure, Result.andThen_ok, List.map_toArray, List.map_cons, List.map_nil, hs, hx, hrun]
  exact hK _ _ (h v' w' h2 h3 hk)
end

end Go.Proofs.YtiembenkdldklaaDoor

namespace Go.Proofs.YtiembenkdldklaaDoor
open Go Go.RowKit
set_option linter.unusedVariables false

theorem iz_one (l : List Int) : ∀ u ∈ iz l, u.oneCell' = true := one_of_map _ (fun _ => rfl) l
theorem iz_append (l m : List Int) : iz (l ++ m) = iz l ++ iz m := by simp [iz]
theorem iz_take (l : List Int) (k : Nat) : (iz l).take (k * 1) = iz (l.take k) := by simp [iz]
theorem ac_one (l : List AcV) : ∀ u ∈ acCells l, u.oneCell' = true := by
  intro u hu
  simp only [acCells, List.mem_flatMap, AcV.cells, List.mem_cons, List.not_mem_nil, or_false] at hu
  obtain ⟨a, _, h⟩ := hu
  rcases h with rfl | rfl | rfl | rfl | rfl | rfl <;> rfl
theorem ob_some {A : Option Addr} {g : Nat} (h : A = some ⟨g, 0, none⟩) : ob A = some g := by rw [h]; rfl

/-- A row of numbers that grows: the blocks in which it ever lay. -/
structure Gr (W : World) (S : Nat → Prop) (A : Option Addr) (n c : Nat) (xs : List Int) : Prop where
  own : W.ownsRow 0 3 1 (.slice A n c) n (iz xs)
  inS : ∀ k, ob A = some k → S k
  lt : ∀ k, S k → k < W.heap.size
/-- What was a part of it. -/
def Od (W : World) (S : Nat → Prop) (A : Option Addr) (n : Nat) (B : Option Addr) (k : Nat) (L : List Int) : Prop :=
  L.length = k ∧ (0 < k → ∃ g, B = some ⟨g, 0, none⟩ ∧ S g ∧ (ob A = some g → k ≤ n) ∧ ∀ j u, (iz L)[j]? = some u → W.cell? ⟨g, j, none⟩ = some u)
section
variable {W W' : World} {S : Nat → Prop} {A A' B : Option Addr} {n n' c c' k : Nat} {xs ys L : List Int} {r : Option Nat}
theorem Od.rd (o : Od W S A n B k L) (hlt : ∀ k, S k → k < W.heap.size) : Rd W W.heap.size 1 B k (iz L) :=
  ⟨by rw [iz_length, o.1]; omega, fun h0 => by
    obtain ⟨g, rfl, hS, _, hc⟩ := o.2 h0
    refine ⟨_, rfl, hlt g hS, fun j u hu => ?_⟩
    rw [add_plain, Nat.zero_add]
    exact hc j u hu⟩
theorem Gr.step (h : Gr W S A n c xs) (hst : Stp W W' (.slice A n c) (.slice A' n' c')) (ho : W'.ownsRow 0 3 1 (.slice A' n' c') n' (iz ys)) : Gr W' (fun k => S k ∨ ob A' = some k) A' n' c' ys :=
  ⟨ho, fun k e => .inr e, fun k e => e.elim (fun h1 => Nat.lt_of_lt_of_le (h.lt k h1) hst.grow.size) fun e => own_lt ho k (by rw [ob_eq]; exact e)⟩
theorem Od.step (o : Od W S A n B k L) (h : Gr W S A n c xs) (hst : Stp W W' (.slice A n c) (.slice A' n' c')) (hk : W'.ownsRow 0 3 1 (.slice A n c) n (iz xs)) (hn : n ≤ n') : Od W' (fun k => S k ∨ ob A' = some k) A' n' B k L := by
  refine ⟨o.1, fun h0 => ?_⟩
  obtain ⟨g, rfl, hS, hle, hc⟩ := o.2 h0
  refine ⟨g, rfl, .inl hS, fun e => ?_, fun j u hu => ?_⟩
  · rcases hst.row with e1 | ⟨k', e1, hk'⟩
    · rw [ob_eq, ob_eq, e] at e1
      exact Nat.le_trans (hle e1.symm) hn
    · rw [ob_eq, e] at e1
      have := h.lt g hS
      injection e1 with e1
      omega
  · have hjk : j < k := by have := (List.getElem?_eq_some_iff.1 hu).1; rw [iz_length, o.1] at this; exact this
    by_cases e : ob A = some g
    · have hkn := hle e
      have eb : (Value.slice A n c).ownBlock = some g := by rw [ob_eq]; exact e
      have hxl : xs.length = n := by have := h.own.1; rw [iz_length] at this; omega
      have hx : (iz xs)[j]? = some (.int .i64 (xs[j]'(by omega))) := by simp [iz, show j < xs.length by omega]
      obtain ⟨g', cap, hv, _, _⟩ := h.own.form (by omega)
      have hA : A = some ⟨g', 0, none⟩ := by injection hv
      subst hA
      obtain rfl : g = g' := by have := e.symm.trans (ob_some rfl); injection this
      have c1 := h.own.cells (g := g) rfl j _ hx
      have c2 := hk.cells (g := g) rfl j _ hx
      rw [add_plain, Nat.zero_add] at c1 c2
      have := hc j u hu
      rw [c1] at this
      rw [c2, this]
    · rw [← hc j u hu]
      exact World.cell?_of_block (hst.grow.block g (h.lt g hS) (fun e' => e (by rw [← ob_eq A n c]; exact e'.symm)))
theorem Gr.away (h : Gr W S A n c xs) (hg : W.grownBy W' r) (hr : ∀ g, S g → r ≠ some g) : Gr W' S A n c xs :=
  ⟨own_keep h.own fun k e => hg.block k (own_lt h.own k e) (fun e' => hr k (h.inS k (by rw [← ob_eq A n c]; exact e)) e'.symm), h.inS, fun k e => Nat.lt_of_lt_of_le (h.lt k e) hg.size⟩
theorem Od.away (o : Od W S A n B k L) (hlt : ∀ k, S k → k < W.heap.size) (hg : W.grownBy W' r) (hr : ∀ g, S g → r ≠ some g) : Od W' S A n B k L :=
  ⟨o.1, fun h0 => by
    obtain ⟨g, rfl, hS, hle, hc⟩ := o.2 h0
    exact ⟨g, rfl, hS, hle, fun j u hu => (World.cell?_of_block (hg.block g (hlt g hS) (fun e' => hr g hS e'.symm))).trans (hc j u hu)⟩⟩
/-- All of it is a part of it. -/
theorem Gr.od (h : Gr W S A n c xs) : Od W S A n A n xs := by
  have hxl : xs.length = n := by have := h.own.1; rw [iz_length] at this; omega
  refine ⟨hxl, fun h0 => ?_⟩
  obtain ⟨g, cap, hv, _, _⟩ := h.own.form h0
  have hA : A = some ⟨g, 0, none⟩ := by injection hv
  subst hA
  refine ⟨g, rfl, h.inS g rfl, fun _ => Nat.le_refl _, fun j u hu => ?_⟩
  have := h.own.cells (g := g) rfl j u hu
  rwa [add_plain, Nat.zero_add] at this
end

def szs : List Int := [0, 1, 2, 63, 64, 65, 127, 128, 129, 200, -1, 400]
/-- Of an act: its rows are parts of what grows; its numbers are such. -/
structure AcG (W : World) (SL SM : Nat → Prop) (A : Option Addr) (n : Nat) (A2 : Option Addr) (m : Nat) (a : AcV) : Prop where
  l : Od W SL A n a.A a.n a.L
  m : Od W SM A2 m a.A2 a.m a.M
  ln : a.n ≤ a.c ∧ a.c ≤ 9223372036854775807
  mn : a.m ≤ a.c2 ∧ a.c2 ≤ 9223372036854775807
  d : -9223372036854775808 ≤ a.d ∧ a.d ≤ 9223372036854775807
  i : -9223372036854775808 ≤ a.i ∧ a.i ≤ 9223372036854775807
  z : -9223372036854775808 ≤ a.z ∧ a.z ≤ 9223372036854775807
/-- Between two numbers: the rows, the acts, the sizes. -/
structure KnS (w W : World) (SL SM : Nat → Prop) (bs : Nat) (A : Option Addr) (n c : Nat) (xs : List Int) (A2 : Option Addr) (m c2 : Nat) (ys : List Int) (A3 : Option Addr) (q c3 : Nat) (acs : List AcV) : Prop where
  l : Gr W SL A n c xs
  mg : Gr W SM A2 m c2 ys
  a : W.ownsRow 0 39 6 (.slice A3 q c3) q (acCells acs)
  each : ∀ (i : Nat) (x : AcV), acs[i]? = some x → AcG W SL SM A n A2 m x
  dj : ∀ k, SL k → SM k → False
  da : ∀ k, ob A3 = some k → ¬ SL k ∧ ¬ SM k ∧ k ≠ bs ∧ w.heap.size ≤ k
  db : ¬ SL bs ∧ ¬ SM bs ∧ w.heap.size ≤ bs
  z : W.heap[bs]? = some (.cells (iz szs).toArray 3 (0, 0))
  b : Below w.heap.size w W
  ge : ∀ k, SL k ∨ SM k → w.heap.size ≤ k
section
variable {w W W' : World} {SL SM : Nat → Prop} {bs n c m c2 q c3 n' c' : Nat} {A A2 A3 A' : Option Addr} {xs ys zs : List Int} {acs : List AcV} {x : AcV}
theorem KnS.bl (h : KnS w W SL SM bs A n c xs A2 m c2 ys A3 q c3 acs) : bs < W.heap.size := (Array.getElem?_eq_some_iff.1 h.z).1
theorem KnS.below (h : KnS w W SL SM bs A n c xs A2 m c2 ys A3 q c3 acs) (hb : Below W.heap.size W W') : KnS w W' SL SM bs A n c xs A2 m c2 ys A3 q c3 acs := by
  have hg : W.grownBy W' none := ⟨hb.os, hb.tape, hb.output, hb.size, fun i hi _ => hb.block i hi⟩
  exact ⟨h.l.away hg (fun _ _ e => by cases e), h.mg.away hg (fun _ _ e => by cases e), own_below h.a hb (own_lt h.a), fun i x hx => by
    obtain ⟨a1, a2, a3⟩ := h.each i x hx
    exact ⟨a1.away h.l.lt hg (fun _ _ e => by cases e), a2.away h.mg.lt hg (fun _ _ e => by cases e), a3, by assumption, by assumption, by assumption, by assumption⟩,
    h.dj, h.da, h.db, (hb.block bs h.bl).trans h.z, h.b.trans (hb.mono h.b.size), h.ge⟩
theorem KnS.stepL (h : KnS w W SL SM bs A n c xs A2 m c2 ys A3 q c3 acs) (hst : Stp W W' (.slice A n c) (.slice A' n' c')) (ho : W'.ownsRow 0 3 1 (.slice A' n' c') n' (iz zs)) (hk : W'.ownsRow 0 3 1 (.slice A n c) n (iz xs)) (hn : n ≤ n') :
    KnS w W' (fun k => SL k ∨ ob A' = some k) SM bs A' n' c' zs A2 m c2 ys A3 q c3 acs := by
  have hA' : ∀ k, ob A' = some k → SL k ∨ W.heap.size ≤ k := fun k e => by
    rcases hst.row with e1 | ⟨k', e1, hk'⟩
    · rw [ob_eq, ob_eq, e] at e1; exact .inl (h.l.inS k e1.symm)
    · rw [ob_eq, e] at e1; injection e1 with e1; exact .inr (by omega)
  have hr : ∀ g, SM g → (Value.slice A n c).ownBlock ≠ some g := fun g hg e => h.dj g (h.l.inS g (by rw [← ob_eq A n c]; exact e)) hg
  refine ⟨h.l.step hst ho, h.mg.away hst.grow hr, own_keep h.a fun k e => hst.grow.block k (own_lt h.a k e) (fun e' => (h.da k (by rw [← ob_eq A3 q c3]; exact e)).1 (h.l.inS k (by rw [← ob_eq A n c]; exact e'.symm))), fun i x hx => ?_, fun k h1 h2 => ?_, fun k e => ?_, ?_, ?_, h.b.grown hst.grow h.b.size (fun k e => h.ge k (.inl (h.l.inS k (by rw [← ob_eq A n c]; exact e)))), fun k e => ?_⟩
  · obtain ⟨a1, a2, a3, a4, a5, a6, a7⟩ := h.each i x hx
    exact ⟨a1.step h.l hst hk hn, a2.away h.mg.lt hst.grow hr, a3, a4, a5, a6, a7⟩
  · rcases h1 with h1 | h1
    · exact h.dj k h1 h2
    · rcases hA' k h1 with h3 | h3
      · exact h.dj k h3 h2
      · have := h.mg.lt k h2; omega
  · obtain ⟨b1, b2, b3, b4⟩ := h.da k e
    refine ⟨fun h1 => ?_, b2, b3, b4⟩
    rcases h1 with h1 | h1
    · exact b1 h1
    · rcases hA' k h1 with h3 | h3
      · exact b1 h3
      · have := own_lt h.a k (by rw [ob_eq]; exact e); omega
  · refine ⟨fun h1 => ?_, h.db.2⟩
    rcases h1 with h1 | h1
    · exact h.db.1 h1
    · rcases hA' bs h1 with h3 | h3
      · exact h.db.1 h3
      · have := h.bl; omega
  · exact (hst.grow.block bs h.bl (fun e => h.db.1 (h.l.inS bs (by rw [← ob_eq A n c]; exact e.symm)))).trans h.z
  · rcases e with (e | e) | e
    · exact h.ge k (.inl e)
    · rcases hA' k e with h3 | h3
      · exact h.ge k (.inl h3)
      · exact Nat.le_trans h.b.size h3
    · exact h.ge k (.inr e)
/-- The two rows change places. -/
theorem KnS.stepM (h : KnS w W SL SM bs A n c xs A2 m c2 ys A3 q c3 acs) (hst : Stp W W' (.slice A2 m c2) (.slice A' n' c')) (ho : W'.ownsRow 0 3 1 (.slice A' n' c') n' (iz zs)) (hk : W'.ownsRow 0 3 1 (.slice A2 m c2) m (iz ys)) (hn : m ≤ n') :
    KnS w W' SL (fun k => SM k ∨ ob A' = some k) bs A n c xs A' n' c' zs A3 q c3 acs := by
  have hA' : ∀ k, ob A' = some k → SM k ∨ W.heap.size ≤ k := fun k e => by
    rcases hst.row with e1 | ⟨k', e1, hk'⟩
    · rw [ob_eq, ob_eq, e] at e1; exact .inl (h.mg.inS k e1.symm)
    · rw [ob_eq, e] at e1; injection e1 with e1; exact .inr (by omega)
  have hr : ∀ g, SL g → (Value.slice A2 m c2).ownBlock ≠ some g := fun g hg e => h.dj g hg (h.mg.inS g (by rw [← ob_eq A2 m c2]; exact e))
  refine ⟨h.l.away hst.grow hr, h.mg.step hst ho, own_keep h.a fun k e => hst.grow.block k (own_lt h.a k e) (fun e' => (h.da k (by rw [← ob_eq A3 q c3]; exact e)).2.1 (h.mg.inS k (by rw [← ob_eq A2 m c2]; exact e'.symm))), fun i x hx => ?_, fun k h1 h2 => ?_, fun k e => ?_, ?_, ?_, h.b.grown hst.grow h.b.size (fun k e => h.ge k (.inr (h.mg.inS k (by rw [← ob_eq A2 m c2]; exact e)))), fun k e => ?_⟩
  · obtain ⟨a1, a2, a3, a4, a5, a6, a7⟩ := h.each i x hx
    exact ⟨a1.away h.l.lt hst.grow hr, a2.step h.mg hst hk hn, a3, a4, a5, a6, a7⟩
  · rcases h2 with h2 | h2
    · exact h.dj k h1 h2
    · rcases hA' k h2 with h3 | h3
      · exact h.dj k h1 h3
      · have := h.l.lt k h1; omega
  · obtain ⟨b1, b2, b3, b4⟩ := h.da k e
    refine ⟨b1, fun h1 => ?_, b3, b4⟩
    rcases h1 with h1 | h1
    · exact b2 h1
    · rcases hA' k h1 with h3 | h3
      · exact b2 h3
      · have := own_lt h.a k (by rw [ob_eq]; exact e); omega
  · refine ⟨h.db.1, fun h1 => ?_, h.db.2.2⟩
    rcases h1 with h1 | h1
    · exact h.db.2.1 h1
    · rcases hA' bs h1 with h3 | h3
      · exact h.db.2.1 h3
      · have := h.bl; omega
  · exact (hst.grow.block bs h.bl (fun e => h.db.2.1 (h.mg.inS bs (by rw [← ob_eq A2 m c2]; exact e.symm)))).trans h.z
  · rcases e with e | e | e
    · exact h.ge k (.inl e)
    · exact h.ge k (.inr e)
    · rcases hA' k e with h3 | h3
      · exact h.ge k (.inr h3)
      · exact Nat.le_trans h.b.size h3
theorem KnS.stepA (h : KnS w W SL SM bs A n c xs A2 m c2 ys A3 q c3 acs) (hst : Stp W W' (.slice A3 q c3) (.slice A' (q + 1) c')) (ho : W'.ownsRow 0 39 6 (.slice A' (q + 1) c') (q + 1) (acCells (acs ++ [x]))) (hx : AcG W SL SM A n A2 m x) :
    KnS w W' SL SM bs A n c xs A2 m c2 ys A' (q + 1) c' (acs ++ [x]) := by
  have hr : ∀ g, SL g ∨ SM g → (Value.slice A3 q c3).ownBlock ≠ some g := fun g hg e => by
    obtain ⟨b1, b2, _⟩ := h.da g (by rw [← ob_eq A3 q c3]; exact e)
    exact hg.elim b1 b2
  have EX : ∀ y, AcG W SL SM A n A2 m y → AcG W' SL SM A n A2 m y := fun y ⟨a1, a2, a3, a4, a5, a6, a7⟩ =>
    ⟨a1.away h.l.lt hst.grow (fun g hg => hr g (.inl hg)), a2.away h.mg.lt hst.grow (fun g hg => hr g (.inr hg)), a3, a4, a5, a6, a7⟩
  refine ⟨h.l.away hst.grow (fun g hg => hr g (.inl hg)), h.mg.away hst.grow (fun g hg => hr g (.inr hg)), ho, fun i y hy => ?_, h.dj, fun k e => ?_, h.db, ?_, h.b.grown hst.grow h.b.size (fun k e => (h.da k (by rw [← ob_eq A3 q c3]; exact e)).2.2.2), h.ge⟩
  · rcases Nat.lt_or_ge i acs.length with h1 | h1
    · rw [List.getElem?_append_left h1] at hy; exact EX y (h.each i y hy)
    · rw [List.getElem?_append_right h1] at hy
      have : i - acs.length = 0 := by
        rcases Nat.eq_zero_or_pos (i - acs.length) with h2 | h2
        · exact h2
        · rw [List.getElem?_eq_none (by simp; omega)] at hy; cases hy
      rw [this] at hy
      obtain rfl : x = y := by simpa using hy
      exact EX x hx
  · rcases hst.row with e1 | ⟨k', e1, hk'⟩
    · rw [ob_eq, ob_eq, e] at e1; exact h.da k e1.symm
    · rw [ob_eq, e] at e1
      injection e1 with e1
      refine ⟨fun h1 => ?_, fun h1 => ?_, ?_, ?_⟩
      · have := h.l.lt k h1; omega
      · have := h.mg.lt k h1; omega
      · have := h.bl; omega
      · have := h.b.size; omega
  · exact (hst.grow.block bs h.bl (fun e => (h.da bs (by rw [← ob_eq A3 q c3]; exact e.symm)).2.2.1 rfl)).trans h.z
theorem KnS.ok (h : KnS w W SL SM bs A n c xs A2 m c2 ys A3 q c3 acs) : ∀ (i : Nat) (a : AcV), acs[i]? = some a → AcOK W W.heap.size a := fun i a ha => by
  obtain ⟨a1, a2, a3, a4, a5, a6, a7⟩ := h.each i a ha
  exact ⟨a1.rd h.l.lt, a2.rd h.mg.lt, a3, a4, a5, a6, a7⟩
theorem KnS.size (h : KnS w W SL SM bs A n c xs A2 m c2 ys A3 q c3 acs) {j : Nat} (hj : j < 12) : W.cell? ⟨bs, j, none⟩ = some (.int .i64 (szs.getD j 0)) := by
  rw [cell_of_row _ _ j _ _ _ h.z]
  have hl : szs.length = 12 := rfl
  rw [List.getD_eq_getElem?_getD, List.getElem?_eq_getElem (by omega)]
  simp [iz, show j < szs.length by omega]
end

theorem act_new (w : World) (a : AcV) (T : TypeId) : Rd (w.alloc (.cells #[.int .i64 a.d, .int .i64 a.i, .int .i64 a.z, .slice a.A a.n a.c, .slice a.A2 a.m a.c2, .bool a.own] T)) (w.heap.size + 1) 6 (some ⟨w.heap.size, 0, none⟩) 1 (acCells [a]) := by
  refine ⟨by rw [acCells_length]; rfl, fun _ => ⟨_, rfl, by simp, fun j u hu => ?_⟩⟩
  have : acCells [a] = a.cells := by simp [acCells]
  rw [add_plain, Nat.zero_add, cell_of_row _ _ j _ _ _ (heap_alloc_new w _), ← hu, this]
  simp [AcV.cells]
theorem acs_lit (w : World) (l : List AcV) (T : TypeId) : Rd (w.alloc (.cells (acCells l).toArray T)) (w.heap.size + 1) 6 (some ⟨w.heap.size, 0, none⟩) l.length (acCells l) := by
  refine ⟨acCells_length l, fun _ => ⟨_, rfl, by simp, fun j u hu => ?_⟩⟩
  rw [add_plain, Nat.zero_add, cell_of_row _ _ j _ _ _ (heap_alloc_new w _), ← hu]
  simp
def noAct (d i : Int) : AcV := ⟨d, i, 0, none, 0, 0, none, 0, 0, false, [], []⟩
theorem noAct_ok (w : World) (B : Nat) (d i : Int) (hd : -9223372036854775808 ≤ d ∧ d ≤ 9223372036854775807) (hi : -9223372036854775808 ≤ i ∧ i ≤ 9223372036854775807) : AcOK w B (noAct d i) :=
  ⟨Rd.zero, Rd.zero, ⟨Nat.le_refl _, by show ((0 : Nat)) ≤ _; omega⟩, ⟨Nat.le_refl _, by show ((0 : Nat)) ≤ _; omega⟩, hd, hi, ⟨by show (_ : Int) ≤ 0; omega, by show (0 : Int) ≤ _; omega⟩⟩
theorem szs_le : ∀ q, q < 12 → -1 ≤ szs.getD q 0 ∧ szs.getD q 0 ≤ 400 := by decide

end Go.Proofs.YtiembenkdldklaaDoor

namespace Go.Proofs.YtiembenkdldklaaDoor
open Go Go.RowKit
set_option linter.unusedVariables false

theorem Tryd.infoAc : (Tryd.prog.info? 39).map (fun i => (i.zero, i.size, i.bytes)) = some (some (.agg #[.int .i64 0, .int .i64 0, .int .i64 0, .slice none 0 0, .slice none 0 0, .bool false]), 6, 80) := by kernel_rfl

set_option maxRecDepth 100000 in
set_option maxHeartbeats 8000000 in
theorem bknown_any (w : World) (hT : BTab w) : Calls Tryd.prog 7 #[] w fun e w' => e = .returned (.bool true) ∧ Below w.heap.size w w' := by
  obtain ⟨i0, hi0, hz0, hz1, hz2⟩ := info_parts Tryd.infoI
  obtain ⟨i9, hi9, hy0, hy1, hy2⟩ := info_parts Tryd.infoAc
  have hb0 := below_new w (.cells (iz szs).toArray 3)
  have hx0 := heap_alloc_new w (.cells (iz szs).toArray 3)
  have HT := Lib_hid hT
  clear hT
  go_enter Tryd.func7, Tryd.ntmps7
  go_upto_region 3 with (fail)
  change Code.wp _ _ _ _ (w.alloc (.cells (iz szs).toArray 3))
  have hs0 : (w.alloc (.cells (iz szs).toArray 3)).heap.size = w.heap.size + 1 := by simp
  generalize w.alloc (.cells (iz szs).toArray 3) = w1 at *
  obtain ⟨bs, hbs⟩ : ∃ bs, bs = w.heap.size := ⟨_, rfl⟩
  have HB0 := Lib_hid (And.intro hb0 (And.intro hx0 hbs))
  clear hb0 hx0 hs0 hbs
  go_wp2
  go_loopw [1, 3] (fun x y wr => ∃ (kk n : Nat), x = .int .i64 (kk : Int) ∧ y = .int .i64 (n : Int) ∧ kk < 100003 ∧ n ≤ 60 ∧ Hid (Below w.heap.size w wr ∧ wr.heap[w.heap.size]? = some (.cells (iz szs).toArray 3 (0, 0)))) (fun _ y _ => 60 - (intOf y).toNat)
  case atStart => exact ⟨1, 0, rfl, rfl, by decide, by decide, ⟨HB0.out.1, HB0.out.2.1⟩⟩
  case round =>
    clear HB0
    obtain ⟨kk, n, rfl, rfl, hkk, hn, hW⟩ := hrel
    by_cases hlt : n < 60
    · have dn : decide ((n : Int) < 60) = true := decide_eq_true (by omega)
      have HK0 : Hid (∃ (SL SM : Nat → Prop) (xs ys : List Int) (acs : List AcV), KnS w wr SL SM w.heap.size none 0 0 xs none 0 0 ys none 0 0 acs) := ⟨fun _ => False, fun _ => False, [], [], [], ⟨World.ownsRow_nil _ _ _ _, (fun k e => by cases e), fun _ e => e.elim⟩, ⟨World.ownsRow_nil _ _ _ _, (fun k e => by cases e), fun _ e => e.elim⟩, World.ownsRow_nil _ _ _ _, (fun i x h => by simp at h), (fun _ e => e.elim), (fun k e => by cases e), ⟨id, id, Nat.le_refl _⟩, hW.out.2, hW.out.1, fun k e => e.elim (fun e => e.elim) (fun e => e.elim)⟩
      go_wp2
      go_loopw [1, 4, 5, 6, 7] (fun x u v s y wr => ∃ (kk j c c2 c3 : Nat) (A A2 A3 : Option Addr), x = .int .i64 (kk : Int) ∧ u = .slice A j c ∧ v = .slice A2 j c2 ∧ s = .slice A3 j c3 ∧ y = .int .i64 (j : Int) ∧ kk < 100003 ∧ j ≤ 20 ∧ Hid (∃ (SL SM : Nat → Prop) (xs ys : List Int) (acs : List AcV), KnS w wr SL SM w.heap.size A j c xs A2 j c2 ys A3 j c3 acs)) (fun _ _ _ _ y _ => 20 - (intOf y).toNat)
      case atStart => exact ⟨kk, 0, 0, 0, 0, none, none, none, rfl, rfl, rfl, rfl, rfl, hkk, by decide, HK0⟩
      case round =>
        clear HK0 hW
        obtain ⟨kk, j, c, c2, c3, A, A2, A3, rfl, rfl, rfl, rfl, rfl, hkk, hj, hK⟩ := hrel
        by_cases hlt2 : j < 20
        · obtain ⟨SL, SM, xs, ys, acs, hK⟩ := hK.out
          have HK := Lib_hid hK
          have hm1 : j + 1 ≤ maxLen := by unfold maxLen; omega
          have hm2 : (j + 1) * 8 ≤ 140737488355328 := by omega
          have hm3 : (j + 1) * 80 ≤ 140737488355328 := by omega
          clear hK
          have HKa := Lib_hid (HK.out.below (below_new wr (.cells #[.int .i64 ((kk : Int) % 210 - 4)] 3)))
          go_upto_region 12 with (at_builtin; (refine wpList_appk (by rfl) _ _ 22 rfl 0 3 i0 (.int .i64 0) 1 8 Tryd.underlying22 hi0 hz0 hz1 hz2 rfl (by decide) (.slice A j c) j (iz xs) rfl HKa.out.l.own (wr.heap.size + 1) ⟨wr.heap.size, 0, none⟩ 1 1 (iz [(kk : Int) % 210 - 4]) rfl (lit_rd wr [(kk : Int) % 210 - 4] 3) (by decide) (iz_one _) hm1 hm2 (Nat.zero_le _) ?_); intro v5 w5 ho5 hst5 hk5; obtain ⟨A5, c5, rfl, _⟩ := own_form ho5; rw [← iz_append] at ho5; have HK5 := Lib_hid (HKa.out.stepL hst5 ho5 hk5 (Nat.le_succ j)); clear ho5 hst5 hk5)
          clear HK HKa
          generalize xs ++ [(kk : Int) % 210 - 4] = xs1 at *
          generalize (fun k => SL k ∨ ob A5 = some k) = SL1 at *
          have HKb := Lib_hid (HK5.out.below (below_new w5 (.cells #[.int .i64 ((kk : Int) / 3 % 140)] 3)))
          go_upto_region 13 with (at_builtin; (refine wpList_appk (by rfl) _ _ 22 rfl 0 3 i0 (.int .i64 0) 1 8 Tryd.underlying22 hi0 hz0 hz1 hz2 rfl (by decide) (.slice A2 j c2) j (iz ys) rfl HKb.out.mg.own (w5.heap.size + 1) ⟨w5.heap.size, 0, none⟩ 1 1 (iz [(kk : Int) / 3 % 140]) rfl (lit_rd w5 [(kk : Int) / 3 % 140] 3) (by decide) (iz_one _) hm1 hm2 (Nat.zero_le _) ?_); intro v6 w6 ho6 hst6 hk6; obtain ⟨A6, c6, rfl, _⟩ := own_form ho6; rw [← iz_append] at ho6; have HK6 := Lib_hid (HKb.out.stepM hst6 ho6 hk6 (Nat.le_succ j)); clear ho6 hst6 hk6)
          clear HK5 HKb
          generalize ys ++ [(kk : Int) / 3 % 140] = ys1 at *
          generalize (fun k => SM k ∨ ob A6 = some k) = SM1 at *
          obtain ⟨q12, hq12⟩ : ∃ q : Nat, (kk : Int) % 12 = q := ⟨kk % 12, by omega⟩
          have hq13 : q12 < 12 := by omega
          have hz12 := szs_le q12 hq13
          have s12 := HK6.out.size hq13
          have HZ12 := Lib_hid hz12
          generalize szs.getD q12 0 = z12 at *
          obtain ⟨a, hda⟩ : ∃ a : AcV, a = ⟨(kk : Int) / 7 % 7, (kk : Int) % 210 - 4, z12, A5, j + 1, c5, A6, j + 1, c6, (kk : Int) % 5 == 0, xs1, ys1⟩ := ⟨_, rfl⟩
          have HG : Hid (AcG w6 SL1 SM1 A5 (j + 1) A6 (j + 1) a) := by
            subst hda
            exact ⟨HK6.out.l.od, HK6.out.mg.od, own_cap HK6.out.l.own, own_cap HK6.out.mg.own, by show _ ∧ _; simp only; omega, by simp only; omega, by simp only; omega⟩
          have HKc := Lib_hid (HK6.out.below (below_new w6 (.cells #[.int .i64 ((kk : Int) / 7 % 7), .int .i64 ((kk : Int) % 210 - 4), .int .i64 z12, .slice A5 (j + 1) c5, .slice A6 (j + 1) c6, .bool ((kk : Int) % 5 == 0)] 39)))
          have hrd : Rd (w6.alloc (.cells #[.int .i64 ((kk : Int) / 7 % 7), .int .i64 ((kk : Int) % 210 - 4), .int .i64 z12, .slice A5 (j + 1) c5, .slice A6 (j + 1) c6, .bool ((kk : Int) % 5 == 0)] 39)) (w6.heap.size + 1) 6 (some ⟨w6.heap.size, 0, none⟩) 1 (acCells [a]) := by
            have := act_new w6 a 39
            rw [hda] at this ⊢
            exact this
          have HGc : Hid (AcG (w6.alloc (.cells #[.int .i64 ((kk : Int) / 7 % 7), .int .i64 ((kk : Int) % 210 - 4), .int .i64 z12, .slice A5 (j + 1) c5, .slice A6 (j + 1) c6, .bool ((kk : Int) % 5 == 0)] 39)) SL1 SM1 A5 (j + 1) A6 (j + 1) a) := by
            have hg := World.grownBy_alloc w6 (.cells #[.int .i64 ((kk : Int) / 7 % 7), .int .i64 ((kk : Int) % 210 - 4), .int .i64 z12, .slice A5 (j + 1) c5, .slice A6 (j + 1) c6, .bool ((kk : Int) % 5 == 0)] 39) none
            obtain ⟨a1, a2, a3, a4, a5, a6, a7⟩ := HG.out
            exact ⟨a1.away HK6.out.l.lt hg (fun _ _ e => by cases e), a2.away HK6.out.mg.lt hg (fun _ _ e => by cases e), a3, a4, a5, a6, a7⟩
          have HRD := Lib_hid hrd
          clear hda hz12 hrd
          go_upto_region 14 with (at_builtin; (refine wpList_appk (by rfl) _ _ 23 rfl 0 39 i9 _ 6 80 Tryd.underlying23 hi9 hy0 hy1 hy2 rfl (by decide) (.slice A3 j c3) j (acCells acs) rfl HKc.out.a (w6.heap.size + 1) ⟨w6.heap.size, 0, none⟩ 1 1 (acCells [a]) rfl HRD.out (by decide) (ac_one _) hm1 hm3 (Nat.zero_le _) ?_); intro v7 w7 ho7 hst7 _; obtain ⟨A7, c7, rfl, _⟩ := own_form ho7; rw [← acCells_append] at ho7; have HK7 := Lib_hid (HKc.out.stepA hst7 ho7 HGc.out); clear ho7 hst7)
          clear HK6 HKc HG HGc HRD s12 hq12
          go_wp2
          go_roundw
          case rel => exact ⟨(kk * 31 + 7 * j + 11) % 100003, j + 1, c5, c6, c7, A5, A6, A7, (by congr 1), rfl, rfl, rfl, by go_num, by omega, by omega, ⟨SL1, SM1, xs1, ys1, acs ++ [a], HK7.out⟩⟩
          case measure => simp [intOf]; omega
        · obtain rfl : j = 20 := by omega
          obtain ⟨SL, SM, xs, ys, acs, hK⟩ := hK.out
          have HK := Lib_hid hK
          obtain ⟨q1, hq1, lq1⟩ : ∃ q : Nat, (n : Int).tmod 12 = q ∧ q < 12 := ⟨n % 12, by rw [Int.tmod_eq_emod_of_nonneg (by omega)]; omega, Nat.mod_lt _ (by decide)⟩
          obtain ⟨r5, hr5, lr5⟩ : ∃ r : Nat, (n : Int).tdiv 5 = r ∧ r ≤ 60 := ⟨n / 5, by rw [Int.tdiv_eq_ediv_of_nonneg (by omega)]; omega, by omega⟩
          obtain ⟨q2, hq2, lq2⟩ : ∃ q : Nat, (r5 : Int).tmod 12 = q ∧ q < 12 := ⟨r5 % 12, by rw [Int.tmod_eq_emod_of_nonneg (by omega)]; omega, Nat.mod_lt _ (by decide)⟩
          obtain ⟨q3, hq3, lq3⟩ : ∃ q : Nat, (n : Int).tmod 20 = q ∧ q < 20 := ⟨n % 20, by rw [Int.tmod_eq_emod_of_nonneg (by omega)]; omega, Nat.mod_lt _ (by decide)⟩
          obtain ⟨q4, hq4, lq4⟩ : ∃ q : Nat, (n : Int).tmod 21 = q ∧ q < 21 := ⟨n % 21, by rw [Int.tmod_eq_emod_of_nonneg (by omega)]; omega, Nat.mod_lt _ (by decide)⟩
          obtain ⟨n3, hn3⟩ : ∃ q : Nat, (n : Int) * 3 = q := ⟨n * 3, by omega⟩
          have hw5 : IntKind.i64.wrap ((n : Int).tdiv 5) = (r5 : Int) := by rw [hr5]; exact IntWalk.i64_in _ (by omega)
          have hw3 : IntKind.i64.wrap ((n : Int) * 3) = (n3 : Int) := by rw [hn3]; exact IntWalk.i64_in _ (by omega)
          have hw6 : IntKind.i64.wrap (r5 : Int) = (r5 : Int) := IntWalk.i64_in _ (by omega)
          have hw7 : IntKind.i64.wrap (n3 : Int) = (n3 : Int) := IntWalk.i64_in _ (by omega)
          have l1 : q1 < 12 := by omega
          have l2 : q2 < 12 := by omega
          have l3 : q3 ≤ 20 := by omega
          have l4 : q4 ≤ 20 := by omega
          have hcap := own_cap hK.l.own
          have p1 : (0 : Int) ≤ (q1 : Int) := by omega
          have p2 : (q1 : Int) < 12 := by omega
          have p3 : (0 : Int) ≤ (q2 : Int) := by omega
          have p4 : (q2 : Int) < 12 := by omega
          have p5 : (0 : Int) ≤ (q3 : Int) := by omega
          have p6 : (0 : Int) ≤ (q4 : Int) := by omega
          have hc3 : (q3 : Int) ≤ (c : Int) := by omega
          have hc4 : (q4 : Int) ≤ (c : Int) := by omega
          obtain ⟨z1, hz1'⟩ : ∃ z, szs.getD q1 0 = z := ⟨_, rfl⟩
          obtain ⟨z2, hz2'⟩ : ∃ z, szs.getD q2 0 = z := ⟨_, rfl⟩
          have SX : Hid (∀ X, Below wr.heap.size wr X → X.cell? ⟨w.heap.size, q1, none⟩ = some (.int .i64 z1) ∧ X.cell? ⟨w.heap.size, q2, none⟩ = some (.int .i64 z2)) := fun X hX => by
            have h := HK.out.below hX
            exact ⟨hz1' ▸ h.size l1, hz2' ▸ h.size l2⟩
          have TB : Hid (∀ X, Below wr.heap.size wr X → BTab X) := fun X hX => HT.out.below (HK.out.below hX).b HT.out.1
          have RL : Hid (∀ X, Below wr.heap.size wr X → Rd X X.heap.size 1 A 20 (iz xs)) := fun X hX => Rd.own (HK.out.below hX).l.own
          have RM : Hid (∀ X, Below wr.heap.size wr X → Rd X X.heap.size 1 A2 20 (iz ys)) := fun X hX => Rd.own (HK.out.below hX).mg.own
          have C1 : Hid (∀ X, Below wr.heap.size wr X → Calls Tryd.prog 3 #[.int .i64 z1, .slice A 20 c, .slice A3 20 c3] X fun e w' => e = .returned (.bool true) ∧ Below X.heap.size X w') := fun X hX => by
            have h := HK.out.below hX
            exact bplays_any 20 c 20 c3 A A3 z1 xs acs X (TB.out X hX) (RL.out X hX) (Rd.own h.a) h.ok (own_cap h.a)
          have C2 : Hid (∀ X, Below wr.heap.size wr X → Calls Tryd.prog 4 #[.int .i64 z1, .int .i64 z2, .slice A q3 c, .slice A q4 c] X fun e w' => e = .returned (.bool true) ∧ Below X.heap.size X w') := fun X hX =>
            bholds_any q3 q4 c c A A z1 z2 (xs.take q3) (xs.take q4) X (TB.out X hX) (by rw [← iz_take]; exact (RL.out X hX).take l3) (by rw [← iz_take]; exact (RL.out X hX).take l4)
          have C3 : Hid (∀ X, Below wr.heap.size wr X → Calls Tryd.prog 4 #[.int .i64 130, .int .i64 64, .slice A2 20 c2, .slice A 20 c] X fun e w' => e = .returned (.bool true) ∧ Below X.heap.size X w') := fun X hX =>
            bholds_any 20 20 c2 c A2 A 130 64 ys xs X (TB.out X hX) (RM.out X hX) (RL.out X hX)
          have C4 : Hid (∀ X, Below wr.heap.size wr X → Calls Tryd.prog 5 #[.int .i64 z1, .slice A 20 c, .slice A2 20 c2, .int .i64 (n3 : Int)] X fun e w' => e = .returned (.bool true) ∧ Below X.heap.size X w') := fun X hX =>
            bsets_any 20 20 c c2 A A2 z1 n3 xs ys X (TB.out X hX) (RL.out X hX) (RM.out X hX)
          have C5 : Hid (∀ X, Below wr.heap.size wr X → Calls Tryd.prog 6 #[.int .i64 (n : Int), .slice A 20 c] X fun e w' => e = .returned (.bool true) ∧ Below X.heap.size X w') := fun X hX =>
            bnone_any 20 c A n xs X (TB.out X hX) (RL.out X hX) (by omega)
          have HFB := Lib_hid (And.intro hK.b hK.z)
          clear hK HK TB RL RM hz1' hz2'
          go_upto_region 15 with (fail)
          go_region_held3 (fun X => X.cell? ⟨w.heap.size, q1, none⟩ = some (.int .i64 z1) ∧ X.cell? ⟨w.heap.size, q2, none⟩ = some (.int .i64 z2))
            (first | exact SX.out _ (below_d1 _) | exact SX.out _ hbs)
            ((first
              | (go_at_call 3; (with_reducible refine (C1.out _ (by exact below_d1 _)).mono ?_); rintro e ws ⟨rfl, hbs'⟩; have hbs : Below wr.heap.size wr ws := ⟨hbs'.os, hbs'.tape, hbs'.output, hbs'.size, hbs'.block⟩)
              | (go_at_call 4; first
                | ((with_reducible refine (C2.out _ (by exact hbs)).mono ?_); rintro e ws ⟨rfl, hbs'⟩; replace hbs := hbs.trans (hbs'.mono hbs.size))
                | ((with_reducible refine (C3.out _ (by exact hbs)).mono ?_); rintro e ws ⟨rfl, hbs'⟩; replace hbs := hbs.trans (hbs'.mono hbs.size)))
              | (go_at_call 5; (with_reducible refine (C4.out _ (by exact hbs)).mono ?_); rintro e ws ⟨rfl, hbs'⟩; replace hbs := hbs.trans (hbs'.mono hbs.size))
              | (go_at_call 6; (with_reducible refine (C5.out _ (by exact hbs)).mono ?_); rintro e ws ⟨rfl, hbs'⟩; replace hbs := hbs.trans (hbs'.mono hbs.size))))
          all_goals
            have hfin : Hid (Below w.heap.size w ws ∧ ws.heap[w.heap.size]? = some (.cells (iz szs).toArray 3 (0, 0))) := ⟨HFB.out.1.trans (hbs.mono HFB.out.1.size), (hbs.block _ (Array.getElem?_eq_some_iff.1 HFB.out.2).1).trans HFB.out.2⟩
            clear C1 C2 C3 C4 C5 SX HFB hbs hbs'
            go_wp2
            go_roundw
            case rel => exact ⟨kk, n + 1, rfl, by go_num, hkk, by omega, hfin⟩
            case measure => simp [intOf]; omega
    · obtain rfl : n = 60 := by omega
      have C1 : Hid (∀ X, Below w.heap.size w X → Calls Tryd.prog 3 #[.int .i64 4611686018427387904, .slice none 0 0, .slice none 0 0] X fun e w' => e = .returned (.bool true) ∧ Below X.heap.size X w') := fun X hX =>
        bplays_any 0 0 0 0 none none 4611686018427387904 [] [] X (HT.out.below hX HT.out.1) Rd.zero Rd.zero (by simp) ⟨Nat.le_refl _, by omega⟩
      have HWO := Lib_hid (fun (W : World) (hW : Below w.heap.size w W) => works_any W (HT.out.below hW HT.out.1))
      have C2 : Hid (∀ X, Below w.heap.size w X → Calls Tryd.prog 3 #[.int .i64 (-9223372036854775808), .slice (some ⟨X.heap.size, 0, none⟩) 1 1, .slice (some ⟨X.heap.size + 1, 0, none⟩) 3 3] ((X.alloc (.cells (iz [0]).toArray 3)).alloc (.cells (acCells [noAct 1 0, noAct 1 9223372036854775807, noAct 2 (-9223372036854775808)]).toArray 39)) fun e w' => e = .returned (.bool true) ∧ Below ((X.alloc (.cells (iz [0]).toArray 3)).alloc (.cells (acCells [noAct 1 0, noAct 1 9223372036854775807, noAct 2 (-9223372036854775808)]).toArray 39)).heap.size ((X.alloc (.cells (iz [0]).toArray 3)).alloc (.cells (acCells [noAct 1 0, noAct 1 9223372036854775807, noAct 2 (-9223372036854775808)]).toArray 39)) w') := fun X hX => by
        have h1 := lit_rd X [0] 3
        have h2 := acs_lit (X.alloc (.cells (iz [0]).toArray 3)) [noAct 1 0, noAct 1 9223372036854775807, noAct 2 (-9223372036854775808)] 39
        have hb1 := below_new X (.cells (iz [0]).toArray 3)
        have hb2 := below_new (X.alloc (.cells (iz [0]).toArray 3)) (.cells (acCells [noAct 1 0, noAct 1 9223372036854775807, noAct 2 (-9223372036854775808)]).toArray 39)
        have hb := (hX.trans (hb1.mono hX.size)).trans (hb2.mono (Nat.le_trans hX.size hb1.size))
        rw [World.size_alloc] at h2
        refine bplays_any 1 1 3 3 _ _ _ [0] [noAct 1 0, noAct 1 9223372036854775807, noAct 2 (-9223372036854775808)] _ (HT.out.below hb HT.out.1) ((h1.below (hb2.mono (by simp))).more (by simp)) (h2.more (by simp)) (fun i a ha => ?_) ⟨Nat.le_refl _, by omega⟩
        have : i = 0 ∨ i = 1 ∨ i = 2 := by
          have := (List.getElem?_eq_some_iff.1 ha).1
          simp at this
          omega
        rcases this with rfl | rfl | rfl
        all_goals
          simp at ha
          subst ha
          exact noAct_ok _ _ _ _ (by omega) (by omega)
      have HB := Lib_hid hW.out.1
      clear hW
      go_wp2_with fail
      refine (C1.out wr HB.out).mono ?_
      rintro e w1 ⟨rfl, hb⟩
      have HB1 := Lib_hid (HB.out.trans (hb.mono HB.out.size))
      clear hb C1
      go_wp2_with fail
      refine (C2.out w1 HB1.out).mono ?_
      rintro e w2 ⟨rfl, hb⟩
      have HB2 : Hid (Below w.heap.size w w2) := by
        have h := HB1.out
        have h3 := (h.alloc h.size (.cells (iz [0]).toArray 3))
        have h4 := (h3.alloc h3.size (.cells (acCells [noAct 1 0, noAct 1 9223372036854775807, noAct 2 (-9223372036854775808)]).toArray 39))
        exact h4.trans (hb.mono h4.size)
      clear hb C2
      go_wp2_with fail
      refine (HWO.out w2 HB2.out).mono ?_
      rintro e w3 ⟨rfl, hb⟩
      have hfin := HB2.out.trans (hb.mono HB2.out.size)
      go_wp2
      go_ret
      exact ⟨rfl, hfin⟩

end Go.Proofs.YtiembenkdldklaaDoor
