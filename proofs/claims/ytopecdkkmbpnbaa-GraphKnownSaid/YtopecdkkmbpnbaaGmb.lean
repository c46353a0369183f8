/-
  Layer 13: a graph as it lies in memory: its box, the map of places, the rows of the edges from a node, and to it; blocks bear marks, so that no two parts meet.
-/
import Derived.Test.YtopecdkkmbpnbaaGma
import Derived.Lib.SmallJoins
namespace Go.Proofs.Ytopecdkkmbpnbaa
open Go Go.RowKit Go.Maps
set_option linter.unusedVariables false

def ob (A : Option Addr) : Option Nat := (Value.slice A 0 0).ownBlock
theorem ob_eq (A : Option Addr) (n c : Nat) : (Value.slice A n c).ownBlock = ob A := by cases A <;> rfl

abbrev Sl2 := Option Addr × Nat
def upS (S : Nat → Sl2) (n : Nat) (v : Sl2) : Nat → Sl2 := fun k => if k = n then v else S k
theorem upS_same (S : Nat → Sl2) (n : Nat) (v : Sl2) : upS S n v n = v := if_pos rfl
theorem upS_other (S : Nat → Sl2) {n k : Nat} (v : Sl2) (h : k ≠ n) : upS S n v k = S k := if_neg h
/-- A node's row as a slice; all of them. -/
def sv (S : Nat → Sl2) (R : Nat → List Ed) (j : Nat) : Value := .slice (S j).1 (R j).length (S j).2
def rowsL (N : Nat) (S : Nat → Sl2) (R : Nat → List Ed) : List Value := (List.range N).map (sv S R)
theorem rowsL_get {N : Nat} (S : Nat → Sl2) (R : Nat → List Ed) {j : Nat} (h : j < N) : (rowsL N S R)[j]? = some (sv S R j) := by simp [rowsL, h]
theorem rowsL_set {N : Nat} (S : Nat → Sl2) (R : Nat → List Ed) {n : Nat} (h : n < N) (v : Sl2) (l : List Ed) : (rowsL N S R).set n (.slice v.1 l.length v.2) = rowsL N (upS S n v) (upR R n l) := by
  unfold rowsL
  apply List.ext_getElem
  · simp
  · intro i h1 h2
    rw [List.getElem_set]
    simp only [List.getElem_map, List.getElem_range]
    by_cases hi : n = i
    · subst hi
      rw [if_pos rfl]; unfold sv; rw [upS_same, upR_same]
    · rw [if_neg hi]; unfold sv; rw [upS_other _ _ (fun e => hi e.symm), upR_other _ _ (fun e => hi e.symm)]

/-- A cell of a row of the call's own is written. -/
theorem own_store {w : World} {base n c g i : Nat} {e : TypeId} {xs : List Value} {u : Value} (h : w.ownsRow base e 1 (.slice (some ⟨g, 0, none⟩) n c) n xs) (hi : i < n) :
    (w.setCell ⟨g, i, none⟩ u).ownsRow base e 1 (.slice (some ⟨g, 0, none⟩) n c) n (xs.set i u) ∧ w.frozen? ⟨g, i, none⟩ = false := by
  obtain ⟨h1, h2⟩ := h
  rcases h2 with ⟨_, h2⟩ | ⟨g', cap, cur, hv, hg, hh, hnc, hcm, hcs, htk⟩
  · omega
  · injection hv with hv1 hv2 hv3
    injection hv1 with hv1
    injection hv1 with hv1
    subst hv1 hv3
    refine ⟨⟨by rw [List.length_set]; exact h1, .inr ⟨g, c, cur.setIfInBounds i u, rfl, hg, Joins.block_setCell (i := i) hh u, hnc, hcm, by simpa using hcs, ?_⟩⟩, frozen_of_row w g i cur e hh⟩
    rw [Array.toList_setIfInBounds, List.take_set, htk]

/-- Half a graph as it lies: the row of its nodes' rows at block g; marks from c on. -/
structure Half (w : World) (N g : Nat) (S : Nat → Sl2) (R : Nat → List Ed) (tg : Nat → Nat) (c : Nat) : Prop where
  top : w.ownsRow 0 34 1 (.slice (some ⟨g, 0, none⟩) N N) N (rowsL N S R)
  row : ∀ j, j < N → w.ownsRow 0 39 3 (.slice (S j).1 (R j).length (S j).2) (R j).length (ec (R j))
  tgt : tg g = c
  tgr : ∀ j, j < N → ∀ k, ob (S j).1 = some k → tg k = c + 2 + 2 * j

section
variable {w w' : World} {N g c : Nat} {S : Nat → Sl2} {R : Nat → List Ed} {tg tg' : Nat → Nat}
theorem Half.cell (h : Half w N g S R tg c) {j : Nat} (hj : j < N) : w.cell? ⟨g, j, none⟩ = some (sv S R j) := by
  rw [h.top.cellAt j (by omega), rowsL_get S R hj]
theorem Half.frozen (h : Half w N g S R tg c) (j : Nat) : w.frozen? ⟨g, j, none⟩ = false := h.top.frozenAt j
theorem Half.glt (h : Half w N g S R tg c) : g < w.heap.size := (h.top.lt g rfl).2
theorem Half.rlt (h : Half w N g S R tg c) {j : Nat} (hj : j < N) {k : Nat} (hk : ob (S j).1 = some k) : k < w.heap.size := own_lt (h.row j hj) k (by rw [ob_eq]; exact hk)
theorem Half.turn (h : Half w N g S R tg c) (hc : 3 ≤ c) (htg : ∀ k, k < w.heap.size → tg' k = tg k) (hk : ∀ k, k < w.heap.size → tg k % 2 = c % 2 → 3 ≤ tg k → w'.heap[k]? = w.heap[k]?) : Half w' N g S R tg' c where
  top := own_keep h.top fun k e => by
    have : g = k := by injection e
    subst this
    have := h.tgt
    exact hk _ h.glt (by rw [this]) (by omega)
  row j hj := own_keep (h.row j hj) fun k e => by
    rw [ob_eq] at e
    have := h.tgr j hj k e
    exact hk _ (h.rlt hj e) (by omega) (by omega)
  tgt := (htg _ h.glt).trans h.tgt
  tgr j hj k e := (htg _ (h.rlt hj e)).trans (h.tgr j hj k e)

/-- A step on half a graph: one row is another one then; only blocks of its own marks were written. -/
structure HalfEnd (w w' : World) (N g : Nat) (S' : Nat → Sl2) (R' : Nat → List Ed) (tg tg' : Nat → Nat) (c : Nat) : Prop where
  half : Half w' N g S' R' tg' c
  old : ∀ k, k < w.heap.size → tg' k = tg k
  al : ∀ k, w'.heap.size ≤ k → tg' k = 0
  turns : Turns (fun k => tg k % 2 = c % 2 ∧ 3 ≤ tg k) w w'

theorem Half.put {w1 : World} {n : Nat} {l' : List Ed} {v : Sl2} (h : Half w N g S R tg c) (hc : 3 ≤ c) (hn : n < N) (hal : ∀ k, w.heap.size ≤ k → tg k = 0)
    (hst : Stp w w1 (sv S R n) (.slice v.1 l'.length v.2)) (ho : w1.ownsRow 0 39 3 (.slice v.1 l'.length v.2) l'.length (ec l')) :
    ∃ tg', HalfEnd w (w1.setCell ⟨g, n, none⟩ (.slice v.1 l'.length v.2)) N g (upS S n v) (upR R n l') tg tg' c := by
  have hg := hst.grow
  unfold sv at hg
  rw [ob_eq] at hg
  have hr := hst.row
  unfold sv at hr
  rw [ob_eq, ob_eq] at hr
  have hsz := hg.size
  have hglt := h.glt
  have hgn : some g ≠ ob (S n).1 := fun e => by
    have h1 := h.tgr n hn g e.symm
    have h2 := h.tgt
    omega
  have hgv : ∀ k, ob v.1 = some k → g ≠ k := fun k hk e => by
    subst e
    rcases hr with h1 | ⟨k', h1, h2⟩
    · exact hgn (by rw [← h1, hk])
    · rw [hk] at h1
      have : g = k' := by injection h1
      omega
  refine ⟨fun k => if w.heap.size ≤ k ∧ ob v.1 = some k then c + 2 + 2 * n else tg k, ⟨?_, ?_, ?_, ?_⟩, ?_, ?_, ?_⟩
  · rw [← rowsL_set S R hn]
    refine (own_store (own_keep h.top fun k e => ?_) hn).1
    have : g = k := by injection e
    subst this
    exact hg.block _ hglt hgn
  · intro j hj
    by_cases hjn : j = n
    · subst hjn
      rw [upS_same, upR_same]
      refine own_keep ho fun k e => ?_
      rw [ob_eq] at e
      exact heap_setCell_other _ ⟨g, j, none⟩ k _ (fun e2 => hgv k e e2.symm)
    · rw [upS_other _ _ hjn, upR_other _ _ hjn]
      refine own_keep (h.row j hj) fun k e => ?_
      rw [ob_eq] at e
      have h1 := h.tgr j hj k e
      have h2 := h.tgt
      refine (heap_setCell_other _ ⟨g, n, none⟩ k _ (fun e2 => ?_)).trans (hg.block k (h.rlt hj e) fun e2 => ?_)
      · have e2 : k = g := e2
        subst e2
        omega
      · have := h.tgr n hn k e2.symm
        omega
  · show (if w.heap.size ≤ g ∧ ob v.1 = some g then c + 2 + 2 * n else tg g) = c
    rw [if_neg (by omega)]; exact h.tgt
  · intro j hj k e
    show (if w.heap.size ≤ k ∧ ob v.1 = some k then c + 2 + 2 * n else tg k) = _
    by_cases hjn : j = n
    · subst hjn
      rw [upS_same] at e
      rcases hr with h1 | ⟨k', h1, h2⟩
      · rw [h1] at e
        rw [if_neg (by have := h.rlt hj e; omega)]
        exact h.tgr j hj k e
      · rw [e] at h1
        have : k = k' := by injection h1
        rw [if_pos ⟨by omega, e⟩]
    · rw [upS_other _ _ hjn] at e
      rw [if_neg (by have := h.rlt hj e; omega)]
      exact h.tgr j hj k e
  · intro k hk
    show (if w.heap.size ≤ k ∧ ob v.1 = some k then c + 2 + 2 * n else tg k) = tg k
    rw [if_neg (by omega)]
  · intro k hk
    have hk : w1.heap.size ≤ k := by simpa using hk
    show (if w.heap.size ≤ k ∧ ob v.1 = some k then c + 2 + 2 * n else tg k) = 0
    rw [if_neg ?_]
    · exact hal k (by omega)
    · rintro ⟨_, e⟩
      have := own_lt ho k (by rw [ob_eq]; exact e)
      omega
  · refine (Turns.grown (S := fun k => tg k % 2 = c % 2 ∧ 3 ≤ tg k) hg (fun k e => .inl ?_)).trans (turns_setCell w1 g n _) (fun k e => .inl ?_)
    · have := h.tgr n hn k e
      exact ⟨by omega, by omega⟩
    · have := h.tgt
      subst e
      exact ⟨by omega, by omega⟩
end

/-- The graph at block p: N nodes, the edges L. -/
structure GmX (w : World) (p N m go gi : Nat) (So Si : Nat → Sl2) (R I : Nat → List Ed) (f : Ed → Option Pl) (tg : Nat → Nat) (L : List Ed) : Prop where
  box : w.heap[p]? = some (.cells #[.int .i64 (N : Int), .map (some m), .slice (some ⟨go, 0, none⟩) N N, .slice (some ⟨gi, 0, none⟩) N N] 80 (0, 0))
  tgp : tg p = 1
  tgm : tg m = 2
  map : MapF w m f L.length
  out : Half w N go So R tg 3
  inn : Half w N gi Si I tg 4
  pl : GrG N L R I f
  ok : ∀ e ∈ L, EdOk e
  al : ∀ k, w.heap.size ≤ k → tg k = 0

/-- The graph at block p, all of it in the blocks S. -/
def GmIs (w : World) (p : Nat) (S : Nat → Prop) (N : Nat) (L : List Ed) : Prop :=
  ∃ m go gi So Si R I f tg, GmX w p N m go gi So Si R I f tg L ∧ ∀ k, S k ↔ tg k ≠ 0
/-- A step on a graph. -/
def GmEnd (N : Nat) (L : List Ed) (S : Nat → Prop) (p : Nat) (w w' : World) : Prop :=
  ∃ S', GmIs w' p S' N L ∧ Turns S w w' ∧ ∀ k, S' k → S k ∨ w.heap.size ≤ k

section
variable {w w' : World} {p N m go gi : Nat} {So Si : Nat → Sl2} {R I : Nat → List Ed} {f : Ed → Option Pl} {tg : Nat → Nat} {L : List Ed} {S : Nat → Prop}
theorem GmX.keep (h : GmX w p N m go gi So Si R I f tg L) (hs : w.heap.size ≤ w'.heap.size) (hk : ∀ k, k < w.heap.size → tg k ≠ 0 → w'.heap[k]? = w.heap[k]?) : GmX w' p N m go gi So Si R I f tg L where
  box := (hk p ((Array.getElem?_eq_some_iff.1 h.box).1) (by rw [h.tgp]; decide)).trans h.box
  tgp := h.tgp
  tgm := h.tgm
  map := h.map.keep (hk m h.map.lt (by rw [h.tgm]; decide))
  out := h.out.turn (by decide) (fun _ _ => rfl) fun k hk1 _ h3 => hk k hk1 (by omega)
  inn := h.inn.turn (by decide) (fun _ _ => rfl) fun k hk1 _ h3 => hk k hk1 (by omega)
  pl := h.pl
  ok := h.ok
  al k hk1 := h.al k (by omega)
theorem GmX.plt (h : GmX w p N m go gi So Si R I f tg L) : p < w.heap.size := (Array.getElem?_eq_some_iff.1 h.box).1
theorem GmX.c0 (h : GmX w p N m go gi So Si R I f tg L) : w.cell? ⟨p, 0, none⟩ = some (.int .i64 (N : Int)) := cell_of_row w p 0 _ _ _ h.box
theorem GmX.c1 (h : GmX w p N m go gi So Si R I f tg L) : w.cell? ⟨p, 1, none⟩ = some (.map (some m)) := cell_of_row w p 1 _ _ _ h.box
theorem GmX.c2 (h : GmX w p N m go gi So Si R I f tg L) : w.cell? ⟨p, 2, none⟩ = some (.slice (some ⟨go, 0, none⟩) N N) := cell_of_row w p 2 _ _ _ h.box
theorem GmX.c3 (h : GmX w p N m go gi So Si R I f tg L) : w.cell? ⟨p, 3, none⟩ = some (.slice (some ⟨gi, 0, none⟩) N N) := cell_of_row w p 3 _ _ _ h.box
theorem GmIs.keep (h : GmIs w p S N L) (hs : w.heap.size ≤ w'.heap.size) (hk : ∀ k, k < w.heap.size → S k → w'.heap[k]? = w.heap[k]?) : GmIs w' p S N L := by
  obtain ⟨m, go, gi, So, Si, R, I, f, tg, h1, h2⟩ := h
  exact ⟨m, go, gi, So, Si, R, I, f, tg, h1.keep hs fun k hk1 h3 => hk k hk1 ((h2 k).2 h3), h2⟩
theorem GmIs.lt (h : GmIs w p S N L) : ∀ k, S k → k < w.heap.size := by
  obtain ⟨m, go, gi, So, Si, R, I, f, tg, h1, h2⟩ := h
  intro k hk
  rcases Nat.lt_or_ge k w.heap.size with h3 | h3
  · exact h3
  · exact absurd (h1.al k h3) ((h2 k).1 hk)
theorem GmIs.below {B : Nat} (h : GmIs w p S N L) (hb : Below B w w') (hB : ∀ k, S k → k < B) : GmIs w' p S N L := h.keep hb.size fun k _ hk => hb.block k (hB k hk)
theorem GmIs.later (h : GmIs w p S N L) (hb : Below w.heap.size w w') : GmIs w' p S N L := h.below hb h.lt
theorem GmIs.turns {T : Nat → Prop} (h : GmIs w p S N L) (t : Turns T w w') (hd : ∀ k, S k → ¬ T k) : GmIs w' p S N L := h.keep t.size fun k hk1 hk => t.block k hk1 (hd k hk)
theorem GmIs.srt (h : GmIs w p S N L) : Srt L := by
  obtain ⟨m, go, gi, So, Si, R, I, f, tg, h1, h2⟩ := h
  exact h1.pl.srt
theorem GmIs.sp (h : GmIs w p S N L) : S p := by
  obtain ⟨m, go, gi, So, Si, R, I, f, tg, h1, h2⟩ := h
  exact (h2 p).2 (by rw [h1.tgp]; decide)
theorem GmEnd.refl (h : GmIs w p S N L) : GmEnd N L S p w w := ⟨S, h, .refl _ _, fun _ hk => .inl hk⟩
theorem GmEnd.trans {w1 : World} {S1 : Nat → Prop} {L' : List Ed} (t : Turns S w w1) (h1 : ∀ k, S1 k → S k ∨ w.heap.size ≤ k) (h : GmEnd N L' S1 p w1 w') : GmEnd N L' S p w w' := by
  obtain ⟨S', h2, h3, h4⟩ := h
  refine ⟨S', h2, t.trans h3 h1, fun k hk => ?_⟩
  have := t.size
  rcases h4 k hk with h5 | h5
  · exact h1 k h5
  · exact .inr (by omega)
end

end Go.Proofs.Ytopecdkkmbpnbaa
