/-
  PairK rows side by side, of Acts and of bytes, the Acts' own slices apart from both.
-/
import Derived.Test.YtaafladmpdkfjaaReads
import Derived.Test.YtaafladmpdkfjaaNone
import Derived.Test.YtaafladmpdkfjaaInw
namespace Go.Proofs.Ytaafladmpdkfjaa
open Go Go.RowKit
set_option linter.unusedVariables false

theorem Rd.stays {w w' : World} {size n : Nat} {A : Option Addr} {xs : List Value} (h : Rd w w.heap.size size A n xs) (hs : w.heap.size ≤ w'.heap.size) (hk : ∀ ad, A = some ad → w'.heap[ad.block]? = w.heap[ad.block]?) : Rd w' w'.heap.size size A n xs := by
  refine ⟨h.len, fun hn => ?_⟩
  obtain ⟨ad, e, hb, hc⟩ := h.lies hn
  refine ⟨ad, e, Nat.lt_of_lt_of_le hb hs, fun j u hu => ?_⟩
  rw [World.cell?_of_block (w := w) (w' := w') (a := ad.add j) (by rw [add_block]; exact hk ad e)]
  exact hc j u hu

/-- An Act's slices lie in blocks of which X holds. -/
structure ActP (X : Nat → Prop) (w : World) (a : ActV) : Prop where
  ok : ∃ bl ll, ActOK w a bl ll
  b : ∀ ad, a.bA = some ad → X ad.block ∧ ad.block < w.heap.size
  l : ∀ ad, a.lA = some ad → X ad.block ∧ ad.block < w.heap.size
theorem ActP.keep {X X' : Nat → Prop} {w w' : World} {a : ActV} (h : ActP X w a) (hs : w.heap.size ≤ w'.heap.size) (hk : ∀ i, i < w.heap.size → X i → X' i ∧ w'.heap[i]? = w.heap[i]?) : ActP X' w' a := by
  obtain ⟨bl, ll, h1⟩ := h.ok
  refine ⟨⟨bl, ll, ⟨h1.b.stays hs fun ad e => ?_, h1.b8, h1.bc, h1.l.stays hs fun ad e => ?_, h1.l64, h1.lc, h1.d, h1.v, h1.k⟩⟩, fun ad e => ?_, fun ad e => ?_⟩
  · exact (hk _ (h.b ad e).2 (h.b ad e).1).2
  · exact (hk _ (h.l ad e).2 (h.l ad e).1).2
  · exact ⟨(hk _ (h.b ad e).2 (h.b ad e).1).1, Nat.lt_of_lt_of_le (h.b ad e).2 hs⟩
  · exact ⟨(hk _ (h.l ad e).2 (h.l ad e).1).1, Nat.lt_of_lt_of_le (h.l ad e).2 hs⟩

/-- A row of Acts and a row of bytes, that lie apart. -/
structure PairK (h0 : Nat) (E8 E9 : TypeId) (s8 s9 : Value) (n nb : Nat) (xs : List ActV) (lb : List Nat) (w : World) : Prop where
  o8 : w.ownsRow h0 E8 5 s8 n (actCells xs)
  o9 : w.ownsRow h0 E9 1 s9 nb (bs lb)
  b8 : ∀ x ∈ lb, x < 256
  len : xs.length = n
  apart : ∀ g, s8.ownBlock = some g → s9.ownBlock ≠ some g
  acts : ∀ a ∈ xs, ActP (fun i => s8.ownBlock ≠ some i ∧ s9.ownBlock ≠ some i) w a

theorem PairK.below {h0 : Nat} {E8 E9 : TypeId} {s8 s9 : Value} {n nb : Nat} {xs : List ActV} {lb : List Nat} {w w' : World} (h : PairK h0 E8 E9 s8 s9 n nb xs lb w) (hb : Below w.heap.size w w') : PairK h0 E8 E9 s8 s9 n nb xs lb w' :=
  ⟨own_below h.o8 hb (own_lt h.o8), own_below h.o9 hb (own_lt h.o9), h.b8, h.len, h.apart, fun a ha => (h.acts a ha).keep hb.size fun i hi hx => ⟨hx, hb.block i hi⟩⟩

theorem PairK.push9 {h0 : Nat} {E8 E9 : TypeId} {s8 s9 s9' : Value} {n nb nb' : Nat} {xs : List ActV} {lb lb' : List Nat} {w w' : World} (h : PairK h0 E8 E9 s8 s9 n nb xs lb w) (hs : Stp w w' s9 s9') (ho : w'.ownsRow h0 E9 1 s9' nb' (bs lb')) (hb8 : ∀ x ∈ lb', x < 256) :
    PairK h0 E8 E9 s8 s9' n nb' xs lb' w' := by
  have h8 := own_lt h.o8
  refine ⟨own_keep h.o8 fun k hk => hs.grow.block k (h8 k hk) (fun e => h.apart k hk e.symm), ho, hb8, h.len, fun g hg e => ?_, fun a ha => (h.acts a ha).keep hs.grow.size fun i hi hx => ⟨⟨hx.1, fun e => ?_⟩, hs.grow.block i hi (fun e => hx.2 e.symm)⟩⟩
  · have := h8 g hg
    rcases hs.row with e2 | ⟨k, e2, hk⟩
    · exact h.apart g hg (e2.symm.trans e)
    · rw [e2] at e; injection e with e; omega
  · rcases hs.row with e2 | ⟨k, e2, hk⟩
    · exact hx.2 (e2.symm.trans e)
    · rw [e2] at e; injection e with e; omega

theorem PairK.push8 {h0 : Nat} {E8 E9 : TypeId} {s8 s8' s9 : Value} {n nb : Nat} {xs : List ActV} {a : ActV} {lb : List Nat} {w w' : World} (h : PairK h0 E8 E9 s8 s9 n nb xs lb w) (hs : Stp w w' s8 s8') (ho : w'.ownsRow h0 E8 5 s8' (n + 1) (actCells (xs ++ [a])))
    (hact : ActP (fun i => w.heap.size ≤ i ∧ s8'.ownBlock ≠ some i) w' a) : PairK h0 E8 E9 s8' s9 (n + 1) nb (xs ++ [a]) lb w' := by
  have h9 := own_lt h.o9
  have far : ∀ g, s9.ownBlock = some g → s8'.ownBlock ≠ some g := by
    intro g hg e
    have := h9 g hg
    rcases hs.row with e2 | ⟨k, e2, hk⟩
    · exact h.apart g (e2.symm.trans e) hg
    · rw [e2] at e; injection e with e; omega
  refine ⟨ho, own_keep h.o9 fun k hk => hs.grow.block k (h9 k hk) (fun e => h.apart k e.symm hk), h.b8, by rw [List.length_append, h.len]; rfl, fun g hg e => far g e hg, fun x hx => ?_⟩
  rcases List.mem_append.1 hx with hx | hx
  · refine (h.acts x hx).keep hs.grow.size fun i hi hx => ⟨⟨fun e => ?_, hx.2⟩, hs.grow.block i hi (fun e => hx.1 e.symm)⟩
    rcases hs.row with e2 | ⟨k, e2, hk⟩
    · exact hx.1 (e2.symm.trans e)
    · rw [e2] at e; injection e with e; omega
  · obtain rfl : x = a := by simpa using hx
    refine hact.keep (Nat.le_refl _) fun i hi hx => ⟨⟨hx.2, fun e => ?_⟩, rfl⟩
    have := h9 i e
    have := hx.1
    omega

theorem actCells_append (xs ys : List ActV) : actCells (xs ++ ys) = actCells xs ++ actCells ys := by simp [actCells]
theorem act_one (a : ActV) : ∀ u ∈ actCells [a], u.oneCell' = true := by
  intro u hu
  simp only [actCells, List.flatMap_cons, List.flatMap_nil, List.append_nil, ActV.cells, List.mem_cons, List.not_mem_nil, or_false] at hu
  rcases hu with rfl | rfl | rfl | rfl | rfl <;> rfl

theorem PairK.nil {h0 : Nat} {E8 E9 : TypeId} {w : World} : PairK h0 E8 E9 (.slice none 0 0) (.slice none 0 0) 0 0 [] [] w :=
  { o8 := ⟨rfl, .inl ⟨rfl, rfl⟩⟩, o9 := ⟨rfl, .inl ⟨rfl, rfl⟩⟩, b8 := (by simp), len := rfl, apart := (by intro g hg; cases hg), acts := (by simp) }

theorem Try.info40 : (Try.prog.info? 40).map (fun i => (i.zero, i.size, i.bytes)) = some (some (.agg #[.int .i64 0, .int .u64 0, .int .i64 0, .slice none 0 0, .slice none 0 0]), 5, 72) := by kernel_rfl

end Go.Proofs.Ytaafladmpdkfjaa
