/-
  Layer 13: what GraphKnown's loops hold: a row of calls, a row of edges, a row of numbers, that grow.
-/
import Derived.Test.YtopecdkkmbpnbaaGoi
import Derived.Test.YtopecdkkmbpnbaaGob
import Derived.Test.YtopecdkkmbpnbaaGti
namespace Go.Proofs.Ytopecdkkmbpnbaa
open Go Go.RowKit Go.Maps
set_option linter.unusedVariables false

theorem acC_append (l m : List AcV) : acC (l ++ m) = acC l ++ acC m := by simp [acC]
theorem acC_oneC (l : List AcV) : ∀ u ∈ acC l, u.oneCell' = true := by
  intro u hu
  simp only [acC, List.mem_flatMap, AcV.cells, List.mem_cons, List.not_mem_nil, or_false] at hu
  obtain ⟨a, _, h⟩ := hu
  rcases h with rfl | rfl <;> rfl
theorem ac_new (w : World) (a : AcV) : Rd (w.alloc (.cells #[.int .i64 a.d, .slice a.A a.n a.c] 36)) (w.heap.size + 1) 2 (some ⟨w.heap.size, 0, none⟩) 1 (acC [a]) := by
  have := Rd.own (World.ownsRow_lit (base := 0) (e := 36) (size := 2) w #[.int .i64 a.d, .slice a.A a.n a.c] 1 (Nat.zero_le _) (by decide) rfl)
  simpa [acC, AcV.cells] using this
structure Kn (lo : Nat) (w W : World) (A3 : Option Addr) (q c3 : Nat) (acs : List AcV) (A4 : Option Addr) (m c4 : Nat) (all : List Ed) (A5 : Option Addr) (q5 c5 : Nat) (ord : List Int) : Prop where
  o3 : W.ownsRow lo 36 2 (.slice A3 q c3) q (acC acs)
  o4 : W.ownsRow lo 39 3 (.slice A4 m c4) m (ec all)
  o5 : W.ownsRow lo 3 1 (.slice A5 q5 c5) q5 (zc ord)
  d34 : ∀ k, ob A3 = some k → ob A4 = some k → False
  d35 : ∀ k, ob A3 = some k → ob A5 = some k → False
  d45 : ∀ k, ob A4 = some k → ob A5 = some k → False
  each : ∀ a ∈ acs, Rd W W.heap.size 3 a.A a.n (ec a.L) ∧ (∀ e ∈ a.L, EdOk e) ∧ (a.n ≤ a.c ∧ a.c ≤ 9223372036854775807) ∧ I64 a.d ∧ a.n ≤ 4 ∧ ∀ ad, a.A = some ad → ob A3 ≠ some ad.block ∧ ob A4 ≠ some ad.block ∧ ob A5 ≠ some ad.block ∧ ad.block < W.heap.size
  ed : ∀ e ∈ all, EdOk e
  b : Below w.heap.size w W
  lw : w.heap.size ≤ lo
  sz : lo ≤ W.heap.size
section
variable {lo : Nat} {w W W' : World} {A3 A4 A5 A' : Option Addr} {q c3 m c4 q5 c5 n' c' : Nat} {acs acs' : List AcV} {all all' : List Ed} {ord ord' : List Int}
theorem Kn.later (h : Kn lo w W A3 q c3 acs A4 m c4 all A5 q5 c5 ord) (hb : Below W.heap.size W W') : Kn lo w W' A3 q c3 acs A4 m c4 all A5 q5 c5 ord :=
  ⟨own_below h.o3 hb (own_lt h.o3), own_below h.o4 hb (own_lt h.o4), own_below h.o5 hb (own_lt h.o5), h.d34, h.d35, h.d45, fun a ha => by
    obtain ⟨h1, h2, h3, h4, h5, h6⟩ := h.each a ha
    exact ⟨(h1.below hb).more hb.size, h2, h3, h4, h5, fun ad e => ⟨(h6 ad e).1, (h6 ad e).2.1, (h6 ad e).2.2.1, Nat.lt_of_lt_of_le (h6 ad e).2.2.2 hb.size⟩⟩, h.ed, h.b.trans (hb.mono h.b.size), h.lw, Nat.le_trans h.sz hb.size⟩
theorem Kn.step3 (h : Kn lo w W A3 q c3 acs A4 m c4 all A5 q5 c5 ord) (hst : Stp W W' (.slice A3 q c3) (.slice A' n' c')) (ho : W'.ownsRow lo 36 2 (.slice A' n' c') n' (acC acs')) (hx : ∀ a ∈ acs', a ∈ acs ∨ (Rd W' W'.heap.size 3 a.A a.n (ec a.L) ∧ (∀ e ∈ a.L, EdOk e) ∧ (a.n ≤ a.c ∧ a.c ≤ 9223372036854775807) ∧ I64 a.d ∧ a.n ≤ 4 ∧ ∀ ad, a.A = some ad → ob A' ≠ some ad.block ∧ ob A4 ≠ some ad.block ∧ ob A5 ≠ some ad.block ∧ ad.block < W'.heap.size)) : Kn lo w W' A' n' c' acs' A4 m c4 all A5 q5 c5 ord := by
  have hA' : ∀ k, ob A' = some k → ob A3 = some k ∨ W.heap.size ≤ k := fun k e => by
    rcases hst.row with e1 | ⟨k', e1, hk'⟩
    · rw [ob_eq, ob_eq, e] at e1; exact .inl e1.symm
    · rw [ob_eq, e] at e1; injection e1 with e1; exact .inr (by omega)
  have hg : ∀ k, k < W.heap.size → ob A3 ≠ some k → W'.heap[k]? = W.heap[k]? := fun k h1 h2 => hst.grow.block k h1 (fun e => h2 (by rw [← ob_eq A3 q c3]; exact e.symm))
  refine ⟨ho, own_keep h.o4 fun k e => hg k (own_lt h.o4 k e) (fun e' => h.d34 k e' (by rw [← ob_eq A4 m c4]; exact e)), own_keep h.o5 fun k e => hg k (own_lt h.o5 k e) (fun e' => h.d35 k e' (by rw [← ob_eq A5 q5 c5]; exact e)), fun k e1 e2 => (hA' k e1).elim (fun h1 => h.d34 k h1 e2) (fun h1 => by have := own_lt h.o4 k (by rw [ob_eq]; exact e2); omega), fun k e1 e2 => (hA' k e1).elim (fun h1 => h.d35 k h1 e2) (fun h1 => by have := own_lt h.o5 k (by rw [ob_eq]; exact e2); omega), h.d45, fun a ha => ?_, h.ed, h.b.grown hst.grow h.b.size (fun k e => Nat.le_trans h.lw (own_ge h.o3 k e)), h.lw, Nat.le_trans h.sz hst.grow.size⟩
  rcases hx a ha with ha | ha
  · obtain ⟨h1, h2, h3, h4, h5, h6⟩ := h.each a ha
    have hb : ∀ ad, a.A = some ad → W'.heap[ad.block]? = W.heap[ad.block]? := fun ad e => hg _ (h6 ad e).2.2.2 ((h6 ad e).1)
    exact ⟨(Rd.offD h1 (fun ad e _ => hb ad e) (Nat.le_refl _)).more hst.grow.size, h2, h3, h4, h5, fun ad e => ⟨fun e2 => (hA' _ e2).elim (h6 ad e).1 (fun h7 => by have := (h6 ad e).2.2.2; omega), (h6 ad e).2.1, (h6 ad e).2.2.1, Nat.lt_of_lt_of_le (h6 ad e).2.2.2 hst.grow.size⟩⟩
  · exact ha
theorem Kn.step4 (h : Kn lo w W A3 q c3 acs A4 m c4 all A5 q5 c5 ord) (hst : Stp W W' (.slice A4 m c4) (.slice A' n' c')) (ho : W'.ownsRow lo 39 3 (.slice A' n' c') n' (ec all')) (hx : ∀ e ∈ all', EdOk e) : Kn lo w W' A3 q c3 acs A' n' c' all' A5 q5 c5 ord := by
  have hA' : ∀ k, ob A' = some k → ob A4 = some k ∨ W.heap.size ≤ k := fun k e => by
    rcases hst.row with e1 | ⟨k', e1, hk'⟩
    · rw [ob_eq, ob_eq, e] at e1; exact .inl e1.symm
    · rw [ob_eq, e] at e1; injection e1 with e1; exact .inr (by omega)
  have hg : ∀ k, k < W.heap.size → ob A4 ≠ some k → W'.heap[k]? = W.heap[k]? := fun k h1 h2 => hst.grow.block k h1 (fun e => h2 (by rw [← ob_eq A4 m c4]; exact e.symm))
  refine ⟨own_keep h.o3 fun k e => hg k (own_lt h.o3 k e) (fun e' => h.d34 k (by rw [← ob_eq A3 q c3]; exact e) e'), ho, own_keep h.o5 fun k e => hg k (own_lt h.o5 k e) (fun e' => h.d45 k e' (by rw [← ob_eq A5 q5 c5]; exact e)), fun k e2 e1 => (hA' k e1).elim (fun h1 => h.d34 k e2 h1) (fun h1 => by have := own_lt h.o3 k (by rw [ob_eq]; exact e2); omega), h.d35, fun k e1 e2 => (hA' k e1).elim (fun h1 => h.d45 k h1 e2) (fun h1 => by have := own_lt h.o5 k (by rw [ob_eq]; exact e2); omega), fun a ha => ?_, hx, h.b.grown hst.grow h.b.size (fun k e => Nat.le_trans h.lw (own_ge h.o4 k e)), h.lw, Nat.le_trans h.sz hst.grow.size⟩
  obtain ⟨h1, h2, h3, h4, h5, h6⟩ := h.each a ha
  have hb : ∀ ad, a.A = some ad → W'.heap[ad.block]? = W.heap[ad.block]? := fun ad e => hg _ (h6 ad e).2.2.2 ((h6 ad e).2.1)
  exact ⟨(Rd.offD h1 (fun ad e _ => hb ad e) (Nat.le_refl _)).more hst.grow.size, h2, h3, h4, h5, fun ad e => ⟨(h6 ad e).1, fun e2 => (hA' _ e2).elim (h6 ad e).2.1 (fun h7 => by have := (h6 ad e).2.2.2; omega), (h6 ad e).2.2.1, Nat.lt_of_lt_of_le (h6 ad e).2.2.2 hst.grow.size⟩⟩
theorem Kn.step5 (h : Kn lo w W A3 q c3 acs A4 m c4 all A5 q5 c5 ord) (hst : Stp W W' (.slice A5 q5 c5) (.slice A' n' c')) (ho : W'.ownsRow lo 3 1 (.slice A' n' c') n' (zc ord')) : Kn lo w W' A3 q c3 acs A4 m c4 all A' n' c' ord' := by
  have hA' : ∀ k, ob A' = some k → ob A5 = some k ∨ W.heap.size ≤ k := fun k e => by
    rcases hst.row with e1 | ⟨k', e1, hk'⟩
    · rw [ob_eq, ob_eq, e] at e1; exact .inl e1.symm
    · rw [ob_eq, e] at e1; injection e1 with e1; exact .inr (by omega)
  have hg : ∀ k, k < W.heap.size → ob A5 ≠ some k → W'.heap[k]? = W.heap[k]? := fun k h1 h2 => hst.grow.block k h1 (fun e => h2 (by rw [← ob_eq A5 q5 c5]; exact e.symm))
  refine ⟨own_keep h.o3 fun k e => hg k (own_lt h.o3 k e) (fun e' => h.d35 k (by rw [← ob_eq A3 q c3]; exact e) e'), own_keep h.o4 fun k e => hg k (own_lt h.o4 k e) (fun e' => h.d45 k (by rw [← ob_eq A4 m c4]; exact e) e'), ho, h.d34, fun k e2 e1 => (hA' k e1).elim (fun h1 => h.d35 k e2 h1) (fun h1 => by have := own_lt h.o3 k (by rw [ob_eq]; exact e2); omega), fun k e2 e1 => (hA' k e1).elim (fun h1 => h.d45 k e2 h1) (fun h1 => by have := own_lt h.o4 k (by rw [ob_eq]; exact e2); omega), fun a ha => ?_, h.ed, h.b.grown hst.grow h.b.size (fun k e => Nat.le_trans h.lw (own_ge h.o5 k e)), h.lw, Nat.le_trans h.sz hst.grow.size⟩
  obtain ⟨h1, h2, h3, h4, h5, h6⟩ := h.each a ha
  have hb : ∀ ad, a.A = some ad → W'.heap[ad.block]? = W.heap[ad.block]? := fun ad e => hg _ (h6 ad e).2.2.2 ((h6 ad e).2.2.1)
  exact ⟨(Rd.offD h1 (fun ad e _ => hb ad e) (Nat.le_refl _)).more hst.grow.size, h2, h3, h4, h5, fun ad e => ⟨(h6 ad e).1, (h6 ad e).2.1, fun e2 => (hA' _ e2).elim (h6 ad e).2.2.1 (fun h7 => by have := (h6 ad e).2.2.2; omega), Nat.lt_of_lt_of_le (h6 ad e).2.2.2 hst.grow.size⟩⟩
end

end Go.Proofs.Ytopecdkkmbpnbaa
