/-
  Layer 7: a table as it lies in memory: its box, its row of names, its map; what a step on it leaves.
-/
import Derived.Test.YtidlpiamiglppaaIma
import Derived.Laws.Rows
namespace Go.Proofs.Ytidlpiamiglppaa
open Go Go.RowKit Go.Maps
set_option linter.unusedVariables false

/-- A kind of table: its keys, and how its names stand in a row. -/
structure Sk extends Kd where
  size : Nat
  E : TypeId
  T : TypeId
  cs : List PP → List Value

def ob (A : Option Addr) : Option Nat := (Value.slice A 0 0).ownBlock
theorem ob_eq (A : Option Addr) (n c : Nat) : (Value.slice A n c).ownBlock = ob A := by cases A <;> rfl
/-- The blocks of a table. -/
def Own (p : Nat) (A : Option Addr) (m : Option Nat) (k : Nat) : Prop := k = p ∨ ob A = some k ∨ m = some k

/-- The table at block p has the names l. -/
structure Tab (s : Sk) (w : World) (p : Nat) (A : Option Addr) (c : Nat) (m : Option Nat) (l : List PP) : Prop where
  box : w.heap[p]? = some (.cells #[.slice A l.length c, .map m] s.T (0, 0))
  row : w.ownsRow 0 s.E s.size (.slice A l.length c) l.length (s.cs l)
  map : MapHas s.toKd w m l
  ne : ob A ≠ some p
  nd : l.Nodup
  al : ∀ q ∈ l, s.Q q

section
variable {s : Sk} {w w' : World} {p c : Nat} {A : Option Addr} {m : Option Nat} {l : List PP}
theorem Tab.lt (h : Tab s w p A c m l) : ∀ k, Own p A m k → k < w.heap.size := by
  rintro k (rfl | h1 | h1)
  · exact (Array.getElem?_eq_some_iff.1 h.box).1
  · exact own_lt h.row k (by rw [ob_eq]; exact h1)
  · exact h.map.lt k h1
theorem Tab.keep (h : Tab s w p A c m l) (hk : ∀ k, Own p A m k → w'.heap[k]? = w.heap[k]?) : Tab s w' p A c m l :=
  ⟨(hk p (.inl rfl)).trans h.box, own_keep h.row fun k e => hk k (.inr (.inl (by rw [ob_eq] at e; exact e))), h.map.keep fun b e => hk b (.inr (.inr e)), h.ne, h.nd, h.al⟩
theorem Tab.turns {S : Nat → Prop} (h : Tab s w p A c m l) (t : Turns S w w') (hd : ∀ k, Own p A m k → ¬ S k) : Tab s w' p A c m l :=
  h.keep fun k hk => t.block k (h.lt k hk) (hd k hk)
theorem Tab.below {B : Nat} (h : Tab s w p A c m l) (t : Below B w w') (hd : ∀ k, Own p A m k → k < B) : Tab s w' p A c m l :=
  h.keep fun k hk => t.block k (hd k hk)
theorem Tab.c0 (h : Tab s w p A c m l) : w.cell? ⟨p, 0, none⟩ = some (.slice A l.length c) := cell_of_row w p 0 _ _ _ h.box
theorem Tab.c1 (h : Tab s w p A c m l) : w.cell? ⟨p, 1, none⟩ = some (.map m) := cell_of_row w p 1 _ _ _ h.box
theorem Tab.z (h : Tab s w p A c m l) (j : Nat) : w.frozen? ⟨p, j, none⟩ = false := frozen_of_row w p j _ _ h.box
theorem Tab.cap (h : Tab s w p A c m l) : l.length ≤ c ∧ c ≤ 9223372036854775807 := own_cap h.row
theorem Tab.rd (h : Tab s w p A c m l) : Rd w w.heap.size s.size A l.length (s.cs l) := Rd.own h.row
theorem Tab.mp (h : Tab s w p A c m l) : m ≠ some p := by
  intro e
  subst e
  obtain ⟨es, clock, hb⟩ := h.map.is
  rw [h.box] at hb
  cases hb
/-- A new table without names. -/
theorem Tab.new (s : Sk) (hs : s.cs [] = []) (w : World) : Tab s (w.alloc (.cells #[.slice none 0 0, .map none] s.T)) w.heap.size none 0 none [] :=
  ⟨heap_alloc_new w _, by rw [hs]; exact World.ownsRow_nil _ _ _ _, .nil _ _, by simp [ob, Value.ownBlock], List.nodup_nil, by simp⟩
end

/-- A step on the table at p: it has the names l then, in blocks of S, and new ones; those of S alone were written. -/
def TabEnd (s : Sk) (l : List PP) (S : Nat → Prop) (p : Nat) (w w' : World) : Prop :=
  ∃ A c m, Tab s w' p A c m l ∧ Turns S w w' ∧ ∀ k, Own p A m k → S k ∨ w.heap.size ≤ k

theorem turns_setCell (w : World) (p j : Nat) (v : Value) : Turns (fun k => k = p) w (w.setCell ⟨p, j, none⟩ v) :=
  ⟨rfl, rfl, rfl, by simp, fun k _ hn => heap_setCell_other w ⟨p, j, none⟩ k v hn⟩
theorem turns_alloc (S : Nat → Prop) (w : World) (o : Obj) : Turns S w (w.alloc o) := .of_below (below_new w o)

/-- A map for a table that has none. -/
theorem Tab.mapped {s : Sk} {w : World} {p c : Nat} {A : Option Addr} {l : List PP} (h : Tab s w p A c none l) :
    Tab s ((w.alloc (.map #[] 0)).setCell ⟨p, 1, none⟩ (.map (some w.heap.size))) p A c (some w.heap.size) l ∧ Turns (Own p A none) w ((w.alloc (.map #[] 0)).setCell ⟨p, 1, none⟩ (.map (some w.heap.size))) := by
  have hl : l = [] := by
    rcases h.map with ⟨_, e⟩ | ⟨b, D, e, _⟩
    · exact e
    · cases e
  subst hl
  have hp : p < w.heap.size := h.lt p (.inl rfl)
  have h1 := h.turns (turns_alloc (fun _ => False) w (.map #[] 0)) (fun _ _ hf => hf)
  have hne : w.heap.size ≠ p := by omega
  refine ⟨⟨?_, ?_, ?_, h.ne, h.nd, h.al⟩, ?_⟩
  · rw [heap_setCell_same _ p 1 _ _ _ h1.box]; rfl
  · refine own_keep h1.row fun k hk => heap_setCell_other _ ⟨p, 1, none⟩ k _ (fun e => ?_)
    rw [ob_eq] at hk
    exact h.ne (by rw [hk, e])
  · refine (MapHas.made s.toKd w).keep fun b hb => ?_
    cases hb
    exact heap_setCell_other _ ⟨p, 1, none⟩ _ _ hne
  · exact (turns_alloc _ w _).trans (turns_setCell _ p 1 _) (fun k e => .inl (.inl e))

/-- Behind an append: a new row in its box. -/
theorem Tab.pushed {s : Sk} {w w' : World} {p c c' : Nat} {A A' : Option Addr} {b : Nat} {l : List PP} {q : PP} (h : Tab s w p A c (some b) l) (hst : Stp w w' (.slice A l.length c) (.slice A' (l.length + 1) c'))
    (ho : w'.ownsRow 0 s.E s.size (.slice A' (l.length + 1) c') (l.length + 1) (s.cs (l ++ [q]))) :
    w'.heap[p]? = w.heap[p]? ∧
    (w'.setCell ⟨p, 0, none⟩ (.slice A' (l.length + 1) c')).heap[p]? = some (.cells #[.slice A' (l.length + 1) c', .map (some b)] s.T (0, 0)) ∧
    (w'.setCell ⟨p, 0, none⟩ (.slice A' (l.length + 1) c')).ownsRow 0 s.E s.size (.slice A' (l.length + 1) c') (l.length + 1) (s.cs (l ++ [q])) ∧
    MapHas s.toKd (w'.setCell ⟨p, 0, none⟩ (.slice A' (l.length + 1) c')) (some b) l ∧ ob A' ≠ some p ∧
    Turns (Own p A (some b)) w (w'.setCell ⟨p, 0, none⟩ (.slice A' (l.length + 1) c')) ∧ (ob A' = ob A ∨ ∃ k, ob A' = some k ∧ w.heap.size ≤ k) := by
  have hp : p < w.heap.size := h.lt p (.inl rfl)
  have hb : b < w.heap.size := h.lt b (.inr (.inr rfl))
  have hg := hst.grow
  rw [ob_eq] at hg
  have hr := hst.row
  rw [ob_eq, ob_eq] at hr
  have hbx : w'.heap[p]? = w.heap[p]? := hg.block p hp (fun e => h.ne e.symm)
  have hne : ob A' ≠ some p := by
    intro e
    rcases hr with h1 | ⟨k, h1, h2⟩
    · exact h.ne (by rw [← h1, e])
    · rw [e] at h1; have : p = k := by injection h1
      omega
  have hbm : b ≠ p := fun e => h.mp (by rw [e])
  have hbr : some b ≠ ob A := by
    intro e
    obtain ⟨es, clock, hbb⟩ := h.map.is
    rcases h.row.2 with ⟨h1, _⟩ | ⟨g, cap, cur, h1, _, h2, _⟩
    · have : A = none := by injection h1
      rw [this] at e
      cases e
    · have : A = some ⟨g, 0, none⟩ := by injection h1
      rw [this] at e
      have e2 : b = g := by injection e
      rw [e2, h2] at hbb
      cases hbb
  refine ⟨hbx, ?_, ?_, ?_, hne, ?_, hr⟩
  · rw [heap_setCell_same _ p 0 _ _ _ (hbx.trans h.box)]; rfl
  · refine own_keep ho fun k hk => heap_setCell_other _ ⟨p, 0, none⟩ k _ (fun e => ?_)
    rw [ob_eq] at hk
    exact hne (by rw [hk, e])
  · refine h.map.keep fun b' e => ?_
    cases e
    exact (heap_setCell_other _ ⟨p, 0, none⟩ b _ hbm).trans (hg.block b hb hbr)
  · refine (Turns.grown (S := Own p A (some b)) hg (fun k e => .inl (.inr (.inl e)))).trans (turns_setCell w' p 0 _) (fun k e => .inl (.inl e))

/-- .. and its number in its map. -/
theorem Tab.done {s : Sk} {w W w' : World} {p c c' : Nat} {A A' : Option Addr} {b : Nat} {l : List PP} {q : PP} (h : Tab s w p A c (some b) l) (hq : s.Q q) (hn : q ∉ l)
    (h1 : W.heap[p]? = some (.cells #[.slice A' (l.length + 1) c', .map (some b)] s.T (0, 0))) (h2 : W.ownsRow 0 s.E s.size (.slice A' (l.length + 1) c') (l.length + 1) (s.cs (l ++ [q])))
    (h4 : ob A' ≠ some p) (h5 : Turns (Own p A (some b)) w W) (h6 : ob A' = ob A ∨ ∃ k, ob A' = some k ∧ w.heap.size ≤ k) (h3 : MapHas s.toKd W (some b) l)
    (hm : MapHas s.toKd w' (some b) (l ++ [q])) (hg : W.grownBy w' (some b)) : TabEnd s (l ++ [q]) (Own p A (some b)) p w w' := by
  have hbp : b ≠ p := fun e => h.mp (by rw [e])
  have hpl : p < W.heap.size := (Array.getElem?_eq_some_iff.1 h1).1
  have hbr : some b ≠ ob A' := by
    intro e
    obtain ⟨es, clock, hbb⟩ := h3.is
    rcases h2.2 with ⟨e1, _⟩ | ⟨g, cap, cur, e1, _, e3, _⟩
    · have : A' = none := by injection e1
      rw [this] at e
      cases e
    · have : A' = some ⟨g, 0, none⟩ := by injection e1
      rw [this] at e
      have e2 : b = g := by injection e
      rw [e2, e3] at hbb
      cases hbb
  have hlen : (l ++ [q]).length = l.length + 1 := by simp
  refine ⟨A', c', some b, ⟨?_, ?_, hm, h4, ?_, ?_⟩, h5.trans (Turns.grown (S := Own p A (some b)) hg (fun k e => .inl (.inr (.inr e)))) (fun k e => .inl e), ?_⟩
  · rw [hlen]
    exact (hg.block p hpl (fun e => hbp (by injection e with e; exact e.symm))).trans h1
  · rw [hlen]
    exact own_keep h2 fun k hk => hg.block k (own_lt h2 k hk) (fun e => by rw [ob_eq] at hk; exact hbr (by rw [hk, e]))
  · have := addP_nodup h.nd q
    rwa [addP_new hn] at this
  · have := addP_all (l := l) (p := q) h.al hq
    rwa [addP_new hn] at this
  · rintro k (rfl | e | e)
    · exact .inl (.inl rfl)
    · rcases h6 with e1 | ⟨k', e1, e2⟩
      · exact .inl (.inr (.inl (by rw [← e1, e])))
      · rw [e] at e1
        have : k = k' := by injection e1
        exact .inr (by omega)
    · exact .inl (.inr (.inr e))

theorem TabEnd.later {s : Sk} {l : List PP} {S S' : Nat → Prop} {p : Nat} {w w1 w' : World} (h : TabEnd s l S' p w1 w') (t : Turns S w w1) (hs : ∀ k, S' k → S k ∨ w.heap.size ≤ k) : TabEnd s l S p w w' := by
  obtain ⟨A, c, m, h1, h2, h3⟩ := h
  refine ⟨A, c, m, h1, t.trans h2 hs, fun k hk => ?_⟩
  have := t.size
  rcases h3 k hk with h4 | h4
  · exact hs k h4
  · exact .inr (by omega)

/-- A row that none of the blocks of S holds. -/
structure Rs (w : World) (S : Nat → Prop) (size : Nat) (A : Option Addr) (n : Nat) (xs : List Value) : Prop where
  len : xs.length = n * size
  lies : 0 < n → ∃ ad, A = some ad ∧ ad.block < w.heap.size ∧ ¬ S ad.block ∧ ∀ j u, xs[j]? = some u → w.cell? (ad.add j) = some u
section
variable {w w' : World} {S : Nat → Prop} {size n : Nat} {A : Option Addr} {xs : List Value}
theorem Rs.of_own {B c : Nat} {E : TypeId} (h : w.ownsRow B E size (.slice A n c) n xs) (hn : ∀ k, ob A = some k → ¬ S k) : Rs w S size A n xs := by
  have r := Rd.own h
  refine ⟨r.len, fun h0 => ?_⟩
  obtain ⟨ad, rfl, hb, hc⟩ := r.lies h0
  exact ⟨ad, rfl, hb, hn _ rfl, hc⟩
theorem Rs.of_rd {B : Nat} (r : Rd w B size A n xs) (hB : B ≤ w.heap.size) (hn : ∀ k, k < B → ¬ S k) : Rs w S size A n xs :=
  ⟨r.len, fun h0 => by
    obtain ⟨ad, rfl, hb, hc⟩ := r.lies h0
    exact ⟨ad, rfl, by omega, hn _ hb, hc⟩⟩
theorem Rs.rd (h : Rs w S size A n xs) (t : Turns S w w') : Rd w' w.heap.size size A n xs :=
  ⟨h.len, fun h0 => by
    obtain ⟨ad, rfl, hb, hn, hc⟩ := h.lies h0
    exact ⟨ad, rfl, hb, fun j u hu => (t.cell (by rw [add_block]; exact hb) (by rw [add_block]; exact hn)).trans (hc j u hu)⟩⟩
end

end Go.Proofs.Ytidlpiamiglppaa
