/-
  Contracts of the program's Reader: Err, At, Left, fail, Number, for every input.
-/
import Derived.Test.YtaafladmpdkfjaaRref
import Derived.Deep.RegionHeld3
namespace Go.Proofs.Ytaafladmpdkfjaa
open Go Go.RowKit
set_option linter.unusedVariables false

/-- A reader at block g: its place, its error, its bytes, which lie below it. -/
structure Rr (T : TypeId) (w : World) (g : Nat) (A : Option Addr) (n c : Nat) (l : List Nat) (a e : Nat) : Prop where
  blk : w.heap[g]? = some (.cells #[.int .i64 (a : Int), .int .i64 (e : Int), .slice A n c] T (0, 0))
  rd : Rd w g 1 A n (bs l)
  nc : n ≤ c ∧ c ≤ 9223372036854775807
  b8 : ∀ x ∈ l, x < 256
  len : l.length ≤ 1000
  place : a ≤ l.length
  err : e < 1000

/-- A step that may write block g alone, of what was there. -/
structure RStp (w w' : World) (g : Nat) : Prop where
  os : w'.os = w.os
  tape : w'.tape = w.tape
  output : w'.output = w.output
  size : w.heap.size ≤ w'.heap.size
  block : ∀ k, k < w.heap.size → k ≠ g → w'.heap[k]? = w.heap[k]?

theorem RStp.refl (w : World) (g : Nat) : RStp w w g := ⟨rfl, rfl, rfl, Nat.le_refl _, fun _ _ _ => rfl⟩
theorem RStp.trans {a b c : World} {g : Nat} (h : RStp a b g) (k : RStp b c g) : RStp a c g :=
  ⟨k.os.trans h.os, k.tape.trans h.tape, k.output.trans h.output, Nat.le_trans h.size k.size, fun i hi hg => (k.block i (Nat.lt_of_lt_of_le hi h.size) hg).trans (h.block i hi hg)⟩
theorem RStp.of {w w' : World} (h : Below w.heap.size w w') (g : Nat) : RStp w w' g := ⟨h.os, h.tape, h.output, h.size, fun k hk _ => h.block k hk⟩
theorem RStp.drewN (w : World) (g n : Nat) : RStp w (w.drewN n) g := RStp.of (below_drew_ (Below.refl _ w)) g
theorem RStp.store (w : World) (g o : Nat) (u : Value) : RStp w (w.setCell ⟨g, o, none⟩ u) g := ⟨rfl, rfl, rfl, by simp, fun k _ hg => Below.heap_setCell w _ _ _ hg⟩
theorem RStp.below {w w' : World} {g : Nat} (h : RStp w w' g) {B : Nat} (hB : B ≤ w.heap.size) (hg : B ≤ g) : Below B w w' := ⟨h.os, h.tape, h.output, h.size, fun k hk => h.block k (by omega) (by omega)⟩

theorem three_set {w : World} {g : Nat} {x y z u : Value} {T : TypeId} (h : w.heap[g]? = some (.cells #[x, y, z] T (0, 0))) :
    (w.setCell ⟨g, 0, none⟩ u).heap[g]? = some (.cells #[u, y, z] T (0, 0)) ∧ (w.setCell ⟨g, 1, none⟩ u).heap[g]? = some (.cells #[x, u, z] T (0, 0)) :=
  ⟨heap_setCell_same w g 0 _ T u h, heap_setCell_same w g 1 _ T u h⟩

section
variable {T : TypeId} {w w' : World} {g n c a e : Nat} {A : Option Addr} {l : List Nat}
theorem Rr.lt (h : Rr T w g A n c l a e) : g < w.heap.size := lt_of_block h.blk
theorem Rr.cells (h : Rr T w g A n c l a e) : w.cell? ⟨g, 0, none⟩ = some (.int .i64 (a : Int)) ∧ w.cell? ⟨g, 1, none⟩ = some (.int .i64 (e : Int)) ∧ w.cell? ⟨g, 2, none⟩ = some (.slice A n c) ∧ w.frozen? ⟨g, 0, none⟩ = false ∧ w.frozen? ⟨g, 1, none⟩ = false := by
  obtain ⟨h1, h2, h3, h4, h5, _⟩ := blk3 h.blk
  exact ⟨h1, h2, h3, h4, h5⟩
theorem Rr.kept (h : Rr T w g A n c l a e) (hb : Below w.heap.size w w') : Rr T w' g A n c l a e :=
  ⟨(hb.block g h.lt).trans h.blk, h.rd.below (hb.mono (Nat.le_of_lt h.lt)), h.nc, h.b8, h.len, h.place, h.err⟩
theorem Rr.kept' {v v' : Value} (h : Rr T w g A n c l a e) (hs : Stp w w' v v') (hv : ∀ k, v.ownBlock = some k → g < k) : Rr T w' g A n c l a e :=
  ⟨(hs.grow.block g h.lt (fun q => by have := hv g q.symm; omega)).trans h.blk, h.rd.keep (fun p hp => World.cell?_of_block (hs.grow.block p.block (by have := h.lt; omega) (fun q => by have := hv p.block q.symm; omega))), h.nc, h.b8, h.len, h.place, h.err⟩
theorem Rr.drewN (h : Rr T w g A n c l a e) (k : Nat) : Rr T (w.drewN k) g A n c l a e := h.kept (below_drew_ (Below.refl _ w))
theorem Rr.stored (h : Rr T w g A n c l a e) (a' e' : Nat) (ha : a' ≤ l.length) (he : e' < 1000) : Rr T ((w.setCell ⟨g, 0, none⟩ (.int .i64 (a' : Int))).setCell ⟨g, 1, none⟩ (.int .i64 (e' : Int))) g A n c l a' e' := by
  refine ⟨(three_set (three_set h.blk).1).2, h.rd.keep fun p hp => ?_, h.nc, h.b8, h.len, ha, he⟩
  rw [World.cell?_setCell_other _ _ _ _ (fun q => by rw [← q] at hp; simp at hp), World.cell?_setCell_other _ _ _ _ (fun q => by rw [← q] at hp; simp at hp)]
theorem Rr.moved (h : Rr T w g A n c l a e) (a' : Nat) (ha : a' ≤ l.length) : Rr T (w.setCell ⟨g, 0, none⟩ (.int .i64 (a' : Int))) g A n c l a' e := by
  refine ⟨(three_set h.blk).1, h.rd.keep fun p hp => ?_, h.nc, h.b8, h.len, ha, h.err⟩
  rw [World.cell?_setCell_other _ _ _ _ (fun q => by rw [← q] at hp; simp at hp)]
end

theorem fail_any (g : Nat) (A : Option Addr) (n c a e : Nat) (l : List Nat) (a' e' : Int) (w : World) (h : Rr 72 w g A n c l a e) :
    Calls Try.prog 40 #[.pointer (some ⟨g, 0, none⟩), .int .i64 a', .int .i64 e'] w fun en w' => en = .returned (.tuple #[]) ∧ (w.setCell ⟨g, 0, none⟩ (.int .i64 a')).setCell ⟨g, 1, none⟩ (.int .i64 e') = w' := by
  obtain ⟨c0, c1, c2, f0, f1⟩ := h.cells
  go_enter Try.func40, Try.ntmps40
  go_wp2
  go_end0
  exact ⟨rfl, rfl⟩
theorem err_any (g : Nat) (A : Option Addr) (n c a e : Nat) (l : List Nat) (w : World) (h : Rr 72 w g A n c l a e) :
    Calls Try.prog 36 #[.pointer (some ⟨g, 0, none⟩)] w fun en w' => en = .returned (.int .i64 (e : Int)) ∧ w = w' := by
  obtain ⟨c0, c1, c2, f0, f1⟩ := h.cells
  go_enter Try.func36, Try.ntmps36
  go_wp2
  go_ret
  exact ⟨rfl, rfl⟩
theorem at_any (g : Nat) (A : Option Addr) (n c a e : Nat) (l : List Nat) (w : World) (h : Rr 72 w g A n c l a e) :
    Calls Try.prog 34 #[.pointer (some ⟨g, 0, none⟩)] w fun en w' => en = .returned (.int .i64 (a : Int)) ∧ w = w' := by
  obtain ⟨c0, c1, c2, f0, f1⟩ := h.cells
  go_enter Try.func34, Try.ntmps34
  go_wp2
  go_ret
  exact ⟨rfl, rfl⟩
theorem left_any (g : Nat) (A : Option Addr) (n c a e : Nat) (l : List Nat) (w : World) (h : Rr 72 w g A n c l a e) :
    Calls Try.prog 35 #[.pointer (some ⟨g, 0, none⟩)] w fun en w' => en = .returned (.int .i64 ((n : Int) - a)) ∧ ∃ q, w' = w.drewN q := by
  obtain ⟨c0, c1, c2, f0, f1⟩ := h.cells
  have hl := h.rd.count
  have hp := h.place
  have hn := h.len
  have hw : IntKind.i64.wrap ((n : Int) - (a : Int)) = (n : Int) - (a : Int) := IntWalk.i64_in _ (by omega)
  clear hl
  go_enter Try.func35, Try.ntmps35
  go_wp2
  go_quiet (fail)
  go_wp2
  go_ret
  exact ⟨rfl, nq, rfl⟩

theorem get_quiet {B : Nat} {A : Option Addr} {n c : Nat} {l : List Nat} {a : Int} {w : World} {k : Nat} (x y z : Nat) (hx : getS l a = (x, y, z)) (h : Rd w B 1 A n (bs l)) (hb : ∀ x ∈ l, x < 256) (hn : n ≤ c) (hc : c ≤ 9223372036854775807) :
    Calls Try.prog 16 #[.slice A n c, .int .i64 a] (w.drewN k) fun e w'' => e = .returned (.tuple #[.int .u64 x, .int .i64 y, .int .i64 z]) ∧ ∃ q, w'' = w.drewN q := by
  refine (get_tup (w.drewN k) x y z hx (h.drewN_ k) hb hn hc).mono ?_
  rintro e w' ⟨h1, rfl⟩
  exact ⟨h1, k, rfl⟩

/-- What a reader's call leaves: place and error. -/
def RLeft (g : Nat) (A : Option Addr) (n c : Nat) (l : List Nat) (a e : Nat) (w w' : World) : Prop := Rr 72 w' g A n c l a e ∧ RStp w w' g

set_option maxRecDepth 100000 in
theorem number_any (g : Nat) (A : Option Addr) (n c a e : Nat) (l : List Nat) (w : World) (h : Rr 72 w g A n c l a e) (a' e' v : Nat) (hS : numS l a e = (a', e', v)) :
    Calls Try.prog 27 #[.pointer (some ⟨g, 0, none⟩)] w fun en w' => en = .returned (.int .u64 (v : Int)) ∧ RLeft g A n c l a' e' w w' := by
  obtain ⟨c0, c1, c2, f0, f1⟩ := h.cells
  obtain ⟨hle, hee, hv⟩ := numS_le h.b8 h.place h.err hS
  by_cases h0 : e = 0
  · subst h0
    obtain ⟨⟨x, y, z⟩, hx⟩ : ∃ x, getS l a = x := ⟨_, rfl⟩
    have h1 : numS l a 0 = if z ≠ 0 then (a, z, 0) else (y, 0, x) := by unfold numS; rw [if_neg (by omega), hx]
    rw [h1] at hS
    have HX := Lib_hid hx
    have hrd := h.rd
    have HB := Lib_hid h.b8
    have hnc := h.nc
    clear hx h1
    by_cases hz : z = 0
    · subst hz
      simp only [ne_eq, not_true_eq_false, if_false, Prod.mk.injEq] at hS
      obtain ⟨rfl, rfl, rfl⟩ := hS
      go_enter Try.func27, Try.ntmps27
      go_wp2_with (go_at_call 36; refine (err_any g A n c a 0 l w h).mono ?_; rintro en w1 ⟨rfl, rfl⟩)
      go_quiet ((go_at_call 16; exact get_quiet x y 0 HX.out hrd HB.out hnc.1 hnc.2))
      go_wp2
      go_ret
      exact ⟨rfl, (h.moved y hle).drewN nq, (RStp.store _ _ _ _).trans (RStp.drewN _ _ _)⟩
    · rw [if_pos hz] at hS
      simp only [Prod.mk.injEq] at hS
      obtain ⟨rfl, rfl, rfl⟩ := hS
      have hz0 : ((z : Int) != 0) = true := by simpa using hz
      go_enter Try.func27, Try.ntmps27
      go_wp2_with (go_at_call 36; refine (err_any g A n c a 0 l w h).mono ?_; rintro en w1 ⟨rfl, rfl⟩)
      go_quiet ((go_at_call 16; exact get_quiet x y z HX.out hrd HB.out hnc.1 hnc.2))
      go_wp2
      go_region_held3 (fun W => W.cell? ⟨g, 0, none⟩ = some (.int .i64 (a : Int))) (first | exact c0 | exact hst.cells.1)
        ((first | (go_at_call 40; refine (fail_any g A n c a 0 l a z (w.drewN (nq + 1)) (h.drewN (nq + 1))).mono ?_; rintro en w2 ⟨rfl, rfl⟩; have hst := (h.drewN (nq + 1)).stored a z h.place hee)))
      all_goals
        go_wp2
        go_ret
        exact ⟨rfl, (h.stored a z h.place hee).drewN (nq + 1), ((RStp.store _ _ _ _).trans (RStp.store _ _ _ _)).trans (RStp.drewN _ _ _)⟩
  · have h0' : ((e : Int) != 0) = true := by simpa using h0
    unfold numS at hS
    rw [if_pos h0] at hS
    simp only [Prod.mk.injEq] at hS
    obtain ⟨rfl, rfl, rfl⟩ := hS
    go_enter Try.func27, Try.ntmps27
    go_wp2_with (go_at_call 36; refine (err_any g A n c a e l w h).mono ?_; rintro en w1 ⟨rfl, rfl⟩)
    go_ret
    exact ⟨rfl, h, RStp.refl _ _⟩

end Go.Proofs.Ytaafladmpdkfjaa
