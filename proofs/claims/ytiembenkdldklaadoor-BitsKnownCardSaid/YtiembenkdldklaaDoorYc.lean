/-
  Layer 8: what its texts share: numbers, truths and words as cells; which blocks a step may write; a set as it lies.
-/
import Derived.Test.YtiembenkdldklaaDoorChecked
import Derived.Test.YtiembenkdldklaaDoorMem
import Derived.Test.YtiembenkdldklaaDoorYb
import Derived.WalkSpells
import Derived.Deep.QuietTactic
import Derived.BigQuiet
import Derived.Laws.Rows
import Derived.Laws.OwnMore
namespace Go.Proofs.YtiembenkdldklaaDoor
open Go Go.RowKit
set_option linter.unusedVariables false

theorem Tryd.infoU : (Tryd.prog.info? 56).map (fun i => (i.zero, i.size, i.bytes)) = some (some (.int .u64 0), 1, 8) := by kernel_rfl
theorem Tryd.infoI : (Tryd.prog.info? 3).map (fun i => (i.zero, i.size, i.bytes)) = some (some (.int .i64 0), 1, 8) := by kernel_rfl
theorem Tryd.infoB : (Tryd.prog.info? 4).map (fun i => (i.zero, i.size, i.bytes)) = some (some (.bool false), 1, 1) := by kernel_rfl

theorem ret_int {k : IntKind} {a b : Int} (h : a = b) : Ending.returned (.int k a) = .returned (.int k b) := by rw [h]
theorem ret_bool {a b : Bool} (h : a = b) : Ending.returned (.bool a) = .returned (.bool b) := by rw [h]
theorem int_beq (a b : Nat) : ((a : Int) == (b : Int)) = (a == b) := by rw [Bool.eq_iff_iff]; simp [Int.natCast_inj]
theorem add_plain (b off k : Nat) : (⟨b, off, none⟩ : Addr).add k = ⟨b, off + k, none⟩ := by
  unfold Addr.add
  by_cases h : k = 0 <;> simp [h]

/-! ### Cells -/
def us (l : List Nat) : List Value := l.map fun (n : Nat) => Value.int .u64 (n : Int)
def ic (l : List Nat) : List Value := l.map fun (n : Nat) => Value.int .i64 (n : Int)
def iz (l : List Int) : List Value := l.map fun (n : Int) => Value.int .i64 n
def bo (l : List Bool) : List Value := l.map Value.bool
theorem us_length (l : List Nat) : (us l).length = l.length := by simp [us]
theorem ic_length (l : List Nat) : (ic l).length = l.length := by simp [ic]
theorem iz_length (l : List Int) : (iz l).length = l.length := by simp [iz]
theorem bo_length (l : List Bool) : (bo l).length = l.length := by simp [bo]
theorem one_of_map {α : Type} (f : α → Value) (hf : ∀ x, (f x).oneCell' = true) (l : List α) : ∀ u ∈ l.map f, u.oneCell' = true := by
  intro u hu
  obtain ⟨x, _, rfl⟩ := List.mem_map.1 hu
  exact hf x
theorem us_one (l : List Nat) : ∀ u ∈ us l, u.oneCell' = true := one_of_map _ (fun _ => rfl) l
theorem ic_one (l : List Nat) : ∀ u ∈ ic l, u.oneCell' = true := one_of_map _ (fun _ => rfl) l
theorem bo_one (l : List Bool) : ∀ u ∈ bo l, u.oneCell' = true := one_of_map _ (fun _ => rfl) l
theorem ic_iz (l : List Nat) : ic l = iz (l.map fun (n : Nat) => (n : Int)) := by simp [ic, iz]

/-! ### Steps -/
/-- Which blocks a step may write: those of S, and new ones. -/
structure Turns (S : Nat → Prop) (w w' : World) : Prop where
  os : w'.os = w.os
  tape : w'.tape = w.tape
  output : w'.output = w.output
  size : w.heap.size ≤ w'.heap.size
  block : ∀ k, k < w.heap.size → ¬ S k → w'.heap[k]? = w.heap[k]?
theorem Turns.refl (S : Nat → Prop) (w : World) : Turns S w w := ⟨rfl, rfl, rfl, Nat.le_refl _, fun _ _ _ => rfl⟩
theorem Turns.trans {S S' : Nat → Prop} {a b c : World} (h : Turns S a b) (k : Turns S' b c) (hs : ∀ k, S' k → S k ∨ a.heap.size ≤ k) : Turns S a c :=
  ⟨k.os.trans h.os, k.tape.trans h.tape, k.output.trans h.output, Nat.le_trans h.size k.size, fun i hi hn => by
    refine (k.block i (Nat.lt_of_lt_of_le hi h.size) fun hc => ?_).trans (h.block i hi hn)
    rcases hs i hc with h1 | h1
    · exact hn h1
    · omega⟩
theorem Turns.trans_ {S : Nat → Prop} {a b c : World} (h : Turns S a b) (k : Turns S b c) : Turns S a c := h.trans k fun _ h => .inl h
theorem Turns.grown {S : Nat → Prop} {w w' : World} {row : Option Nat} (h : w.grownBy w' row) (hr : ∀ k, row = some k → S k ∨ w.heap.size ≤ k) : Turns S w w' :=
  ⟨h.os, h.tape, h.output, h.size, fun i hi hn => h.block i hi (fun e => by
    rcases hr i e.symm with h1 | h1
    · exact hn h1
    · omega)⟩
theorem Turns.below {S : Nat → Prop} {w w' : World} (h : Turns S w w') {B : Nat} (hB : B ≤ w.heap.size) (hs : ∀ k, S k → B ≤ k) : Below B w w' :=
  ⟨h.os, h.tape, h.output, h.size, fun i hi => h.block i (by omega) (fun hc => by have := hs i hc; omega)⟩
theorem Turns.of_below {S : Nat → Prop} {w w' : World} (h : Below w.heap.size w w') : Turns S w w' := ⟨h.os, h.tape, h.output, h.size, fun i hi _ => h.block i hi⟩
theorem Turns.drewN {S : Nat → Prop} {w w' : World} (h : Turns S w w') (q : Nat) : Turns S w (w'.drewN q) := ⟨h.os, h.tape, h.output, h.size, h.block⟩
theorem Turns.mono {S S' : Nat → Prop} {w w' : World} (h : Turns S w w') (hs : ∀ k, S k → S' k) : Turns S' w w' := ⟨h.os, h.tape, h.output, h.size, fun i hi hn => h.block i hi (fun hc => hn (hs i hc))⟩
theorem Turns.cell {S : Nat → Prop} {w w' : World} (h : Turns S w w') {p : Addr} (hp : p.block < w.heap.size) (hn : ¬ S p.block) : w'.cell? p = w.cell? p := World.cell?_of_block (h.block _ hp hn)
theorem turns_setCell (w : World) (p j : Nat) (v : Value) : Turns (fun k => k = p) w (w.setCell ⟨p, j, none⟩ v) :=
  ⟨rfl, rfl, rfl, by simp, fun k _ hn => heap_setCell_other w ⟨p, j, none⟩ k v hn⟩
theorem turns_alloc (S : Nat → Prop) (w : World) (o : Obj) : Turns S w (w.alloc o) := .of_below (below_new w o)
theorem grown_set (w : World) (g i : Nat) (x : Value) : w.grownBy (w.setCell ⟨g, i, none⟩ x) (some g) := ⟨rfl, rfl, rfl, by simp, fun k _ hne => heap_setCell_other w ⟨g, i, none⟩ k x (fun e => hne (by rw [e]))⟩

/-! ### Truths -/
/-- The i-th truth. -/
def bt (l : List Bool) (i : Nat) : Bool := l.getD i false
theorem bt_lt {l : List Bool} {i : Nat} (h : i < l.length) : bt l i = l[i] := by unfold bt; rw [List.getD_eq_getElem?_getD, List.getElem?_eq_getElem h]; rfl
theorem bt_ge {l : List Bool} {i : Nat} (h : l.length ≤ i) : bt l i = false := by unfold bt; rw [List.getD_eq_getElem?_getD, List.getElem?_eq_none h]; rfl
theorem bt_ext {l m : List Bool} (hl : l.length = m.length) (h : ∀ i, bt l i = bt m i) : l = m := by
  apply List.ext_getElem hl
  intro i h1 h2
  have := h i
  rwa [bt_lt h1, bt_lt h2] at this
theorem bt_set {l : List Bool} {i : Nat} (h : i < l.length) (b : Bool) : bt (l.set i b) = upd (bt l) i b := by
  funext j
  unfold upd bt
  rw [List.getD_eq_getElem?_getD, List.getD_eq_getElem?_getD, List.getElem?_set]
  by_cases e : j = i
  · subst e; simp [h]
  · rw [if_neg (fun h => e h.symm), if_neg e]
theorem bt_nil (i : Nat) : bt [] i = false := rfl
theorem bt_rep (n i : Nat) : bt (List.replicate n false) i = false := by
  by_cases h : i < n
  · rw [bt_lt (by simpa using h)]; simp
  · exact bt_ge (by simp; omega)

/-- How many words n digits take. -/
def nw (n : Nat) : Nat := (n + 63) / 64
/-- The words of truths. -/
def wl (l : List Bool) (p : Nat) : Nat := wd (bt l) p
def wds (l : List Bool) : List Nat := (List.range (nw l.length)).map (wl l)
theorem wds_length (l : List Bool) : (wds l).length = nw l.length := by simp [wds]
theorem wl_lt (l : List Bool) (p : Nat) : wl l p < 18446744073709551616 := wd_lt _ _
theorem wds_get {l : List Bool} {p : Nat} (h : p < nw l.length) : (us (wds l))[p]? = some (.int .u64 ((wl l p : Nat) : Int)) := by
  simp [us, wds, h]
theorem wl_ge {l : List Bool} {p : Nat} (h : nw l.length ≤ p) : wl l p = 0 := wd_zero.2 fun j hj => bt_ge (by unfold nw at h; omega)
theorem wds_set {l : List Bool} {i : Nat} (h : i < l.length) (b : Bool) : (wds l).set (i / 64) (wd (upd (bt l) i b) (i / 64)) = wds (l.set i b) := by
  apply List.ext_getElem
  · simp [wds_length]
  · intro p h1 h2
    have hp : p < nw l.length := by simpa [wds_length] using h1
    rw [List.getElem_set]
    by_cases e : i / 64 = p
    · subst e; simp [wds, wl, bt_set h]
    · rw [if_neg e]
      simp only [wds, List.getElem_map, List.getElem_range, wl, bt_set h]
      exact (digit_other (bt l) i p b (fun h => e h.symm)).symm
theorem us_set (l : List Nat) (k x : Nat) : us (l.set k x) = (us l).set k (.int .u64 (x : Int)) := by simp [us, List.map_set]
theorem wds_rep (n : Nat) : wds (List.replicate n false) = List.replicate (nw n) 0 := by
  apply List.ext_getElem
  · simp [wds]
  · intro p h1 h2
    simp only [wds, List.getElem_map, List.getElem_range, List.getElem_replicate, wl]
    exact wd_zero.2 fun j _ => bt_rep n _
theorem at_nw {n i : Nat} (h : i < n) : i / 64 < nw n := by unfold nw; omega

/-! ### A set as it lies -/
def ob (A : Option Addr) : Option Nat := (Value.slice A 0 0).ownBlock
theorem ob_eq (A : Option Addr) (n c : Nat) : (Value.slice A n c).ownBlock = ob A := by cases A <;> rfl
/-- The set at block p has the truths l; its row is at A. -/
structure BS (w : World) (p : Nat) (A : Option Addr) (c : Nat) (l : List Bool) : Prop where
  box : w.heap[p]? = some (.cells #[.int .i64 (l.length : Int), .slice A (nw l.length) c] 55 (0, 0))
  row : w.ownsRow 0 56 1 (.slice A (nw l.length) c) (nw l.length) (us (wds l))
  ne : ob A ≠ some p
  le : l.length ≤ 65536
/-- .. in blocks from lo on, below hi. -/
def BZ (w : World) (lo hi p : Nat) (l : List Bool) : Prop := ∃ A c, BS w p A c l ∧ (lo ≤ p ∧ p < hi) ∧ ∀ k, ob A = some k → lo ≤ k ∧ k < hi

section
variable {w w' : World} {p c lo hi : Nat} {A : Option Addr} {l : List Bool}
theorem BS.lt (h : BS w p A c l) : p < w.heap.size := (Array.getElem?_eq_some_iff.1 h.box).1
theorem BS.row_lt (h : BS w p A c l) {k : Nat} (hk : ob A = some k) : k < w.heap.size := own_lt h.row k (by rw [ob_eq]; exact hk)
theorem BS.keep (h : BS w p A c l) (h1 : w'.heap[p]? = w.heap[p]?) (h2 : ∀ k, ob A = some k → w'.heap[k]? = w.heap[k]?) : BS w' p A c l :=
  ⟨h1.trans h.box, own_keep h.row fun k e => h2 k (by rw [ob_eq] at e; exact e), h.ne, h.le⟩
theorem BZ.keep (h : BZ w lo hi p l) (hk : ∀ k, lo ≤ k → k < hi → k < w.heap.size → w'.heap[k]? = w.heap[k]?) : BZ w' lo hi p l := by
  obtain ⟨A, c, h, h1, h2⟩ := h
  exact ⟨A, c, h.keep (hk p h1.1 h1.2 h.lt) (fun k e => hk k (h2 k e).1 (h2 k e).2 (h.row_lt e)), h1, h2⟩
theorem BZ.turns {S : Nat → Prop} (h : BZ w lo hi p l) (t : Turns S w w') (hd : ∀ k, lo ≤ k → k < hi → ¬ S k) : BZ w' lo hi p l :=
  h.keep fun k h1 h2 h3 => t.block k h3 (hd k h1 h2)
theorem BZ.below {B : Nat} (h : BZ w lo hi p l) (t : Below B w w') (hB : hi ≤ B) : BZ w' lo hi p l := h.keep fun k _ h2 _ => t.block k (by omega)
theorem BZ.drewN (h : BZ w lo hi p l) (q : Nat) : BZ (w.drewN q) lo hi p l := h.keep fun _ _ _ _ => rfl
theorem BZ.lt (h : BZ w lo hi p l) : p < w.heap.size ∧ lo ≤ p ∧ p < hi := by
  obtain ⟨A, c, h, h1, h2⟩ := h
  exact ⟨h.lt, h1⟩
theorem BZ.le (h : BZ w lo hi p l) : l.length ≤ 65536 := by obtain ⟨A, c, h, _⟩ := h; exact h.le
theorem BZ.more {lo' hi' : Nat} (h : BZ w lo hi p l) (h1 : lo' ≤ lo) (h2 : hi ≤ hi') : BZ w lo' hi' p l := by
  obtain ⟨A, c, h, h3, h4⟩ := h
  exact ⟨A, c, h, ⟨by omega, by omega⟩, fun k e => by have := h4 k e; omega⟩
theorem BS.c0 (h : BS w p A c l) : w.cell? ⟨p, 0, none⟩ = some (.int .i64 (l.length : Int)) := cell_of_row w p 0 _ _ _ h.box
theorem BS.c1 (h : BS w p A c l) : w.cell? ⟨p, 1, none⟩ = some (.slice A (nw l.length) c) := cell_of_row w p 1 _ _ _ h.box
theorem BS.cap (h : BS w p A c l) : nw l.length ≤ c ∧ c ≤ 9223372036854775807 := own_cap h.row
/-- The word at j. -/
theorem BS.word (h : BS w p A c l) {j : Nat} (hj : j < nw l.length) : ∃ g, A = some ⟨g, 0, none⟩ ∧ w.cell? ⟨g, j, none⟩ = some (.int .u64 ((wl l j : Nat) : Int)) ∧ w.frozen? ⟨g, j, none⟩ = false ∧ g < w.heap.size ∧ g ≠ p := by
  obtain ⟨g, cap, hv, _, hlt⟩ := h.row.form (by omega)
  have hA : A = some ⟨g, 0, none⟩ := by injection hv
  subst hA
  refine ⟨g, rfl, ?_, h.row.frozenAt j, hlt, fun e => h.ne (by rw [e]; rfl)⟩
  have := h.row.cells (g := g) rfl j _ (wds_get hj)
  rwa [add_plain, Nat.zero_add] at this
/-- Behind a store of a word. -/
theorem BS.stored {g i : Nat} (h : BS w p (some ⟨g, 0, none⟩) c l) (hi : i < l.length) (b : Bool) :
    BS (w.setCell ⟨g, i / 64, none⟩ (.int .u64 ((wd (upd (bt l) i b) (i / 64) : Nat) : Int))) p (some ⟨g, 0, none⟩) c (l.set i b) := by
  have hne : p ≠ g := fun e => h.ne (by rw [e]; rfl)
  refine ⟨?_, ?_, h.ne, by simpa using h.le⟩
  · rw [heap_setCell_other _ _ _ _ hne, h.box]; simp
  · have := (h.row.stored (i / 64) (.int .u64 ((wd (upd (bt l) i b) (i / 64) : Nat) : Int))).1
    rw [← us_set, wds_set hi] at this
    simpa using this
end

end Go.Proofs.YtiembenkdldklaaDoor
