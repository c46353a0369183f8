/-
  Layer 8: the program's change: the plain side; what lies between two rounds.
-/
import Derived.Test.YtiembenkdldklaaDoorYv
import Derived.Test.YtiembenkdldklaaDoorYj
namespace Go.Proofs.YtiembenkdldklaaDoor
open Go Go.RowKit Go.Shelf
set_option linter.unusedVariables false

def gB (how : Nat) (b c : Bool) : Bool := if how = 0 then b || c else if how = 1 then b && c else b && !c
def gW (how x y : Nat) : Nat := if how = 0 then x ||| y else if how = 1 then x &&& y else andN x y
theorem gW_wd (how : Nat) (f g : Nat → Bool) (p : Nat) : gW how (wd f p) (wd g p) = wd (fun i => gB how (f i) (g i)) p := by
  unfold gW gB
  by_cases h0 : how = 0
  · simp only [h0, if_true]; exact wd_or f g p
  · by_cases h1 : how = 1
    · simp only [h1, if_true, if_neg (show ¬ (1 : Nat) = 0 by decide)]; exact wd_and f g p
    · simp only [h0, h1, if_false]; exact wd_not f g p
def foldI (how : Nat) (l : List Bool) (ms : List (List Bool)) (i : Nat) : Bool := ms.foldl (fun b m => gB how b (bt m i)) (bt l i)
theorem foldI_take {how : Nat} {l : List Bool} {ms : List (List Bool)} {k : Nat} (h : k < ms.length) (i : Nat) : foldI how l (ms.take (k + 1)) i = gB how (foldI how l (ms.take k) i) (bt (ms.getD k []) i) := by
  unfold foldI; rw [take_get [] h, List.foldl_append]; rfl
theorem foldI_doR (how : Nat) (l : List Bool) (ms : List (List Bool)) (i : Nat) : foldI how l ms i = doR how l ms i := by
  unfold foldI doR
  generalize bt l i = b
  by_cases h0 : how = 0
  · subst h0
    simp only [gB, if_true, anyI]
    induction ms generalizing b with
    | nil => simp
    | cons m ms ih => rw [List.foldl_cons, ih, List.any_cons, Bool.or_assoc]
  · by_cases h1 : how = 1
    · subst h1
      simp only [gB, if_true, if_neg h0, allI]
      induction ms generalizing b with
      | nil => simp
      | cons m ms ih => rw [List.foldl_cons, ih, List.all_cons, Bool.and_assoc]
    · simp only [gB, if_neg h0, if_neg h1, anyI]
      induction ms generalizing b with
      | nil => simp
      | cons m ms ih =>
        rw [List.foldl_cons, ih, List.any_cons]
        cases b <;> cases bt m i <;> simp

/-- Which numbers come or go. -/
def difL (how : Nat) (l : List Bool) (ms : List (List Bool)) : List Bool := (List.range l.length).map fun i => doR how l ms i != bt l i
theorem difL_len (how : Nat) (l : List Bool) (ms : List (List Bool)) : (difL how l ms).length = l.length := by simp [difL]
theorem bt_difL (how : Nat) (l : List Bool) (ms : List (List Bool)) (i : Nat) : bt (difL how l ms) i = (bt (doB how l ms) i != bt l i) := by
  rw [bt_doB]
  by_cases h : i < l.length
  · rw [bt_lt (by rw [difL_len]; exact h)]; simp [difL, h]
  · rw [bt_ge (l := difL how l ms) (by rw [difL_len]; omega), bt_ge (l := l) (by omega)]; simp [h]
theorem wl_difL (how : Nat) (l : List Bool) (ms : List (List Bool)) (p : Nat) : wl (doB how l ms) p ^^^ wl l p = wl (difL how l ms) p := by
  unfold wl
  rw [wd_xor]
  exact wd_congr fun j _ => (bt_difL how l ms _).symm
/-- How many come or go. -/
def manyB (how : Nat) (l : List Bool) (ms : List (List Bool)) : Nat := difK (doR how l ms) (bt l) l.length
theorem many_difL (how : Nat) (l : List Bool) (ms : List (List Bool)) : (allB (difL how l ms)).length = manyB how l ms := by
  unfold allB allK manyB difK
  rw [difL_len, List.countP_eq_length_filter]
  congr 1
  apply List.filter_congr
  intro i hi
  simp only [List.mem_range] at hi
  rw [bt_difL, bt_doB]
  simp [hi]
/-- The last step: what can't be taken in is cut off. -/
theorem cut_word (how : Nat) (l : List Bool) (ms : List (List Bool)) (p : Nat) : wd (foldI how l ms) p &&& blw ((l.length : Int) - (64 * p : Nat)) = wl (doB how l ms) p := by
  refine wd_ext (and_lt (wd_lt _ _)) fun j hj => ?_
  rw [Nat.testBit_and, wd_bit, bt_doB, foldI_doR]
  unfold blw
  rw [below_bit (Nat.min_le_right _ _) hj]
  have e : decide (j < min ((l.length : Int) - (64 * p : Nat)).toNat 64) = decide (64 * p + j < l.length) := by
    rw [Bool.eq_iff_iff]; simp; omega
  rw [e]
  simp [hj, Bool.and_comm]

/-- The words, of which those below j are new. -/
def wmix (l l' : List Bool) (j : Nat) : List Nat := (List.range (nw l.length)).map fun q => if q < j then wl l' q else wl l q
theorem wmix_len (l l' : List Bool) (j : Nat) : (wmix l l' j).length = nw l.length := by simp [wmix]
theorem wmix_zero (l l' : List Bool) : wmix l l' 0 = wds l := by simp [wmix, wds]
theorem wmix_all (l l' : List Bool) (h : l'.length = l.length) : wmix l l' (nw l.length) = wds l' := by
  unfold wmix wds
  rw [h]
  apply List.map_congr_left
  intro q hq
  simp only [List.mem_range] at hq
  rw [if_pos hq]
theorem wmix_set (l l' : List Bool) {j : Nat} (h : j < nw l.length) : (wmix l l' j).set j (wl l' j) = wmix l l' (j + 1) := by
  apply List.ext_getElem
  · simp [wmix]
  · intro q h1 h2
    rw [List.getElem_set]
    by_cases e : j = q
    · subst e; simp [wmix]
    · rw [if_neg e]
      simp only [wmix, List.getElem_map, List.getElem_range]
      by_cases h3 : q < j
      · rw [if_pos h3, if_pos (by omega)]
      · rw [if_neg h3, if_neg (by omega)]
theorem wmix_get (l l' : List Bool) {j q : Nat} (h : q < nw l.length) (hj : j ≤ q) : (us (wmix l l' j))[q]? = some (.int .u64 (wl l q : Int)) := by
  have : ¬ q < j := by omega
  simp [us, wmix, h, this]

/-- Another set that is handed in: none; this one; one that is apart. -/
def OthX (w : World) (lo hi p : Nat) (l : List Bool) (s : Value) (m : List Bool) : Prop :=
  (s = .pointer none ∧ m = []) ∨ (s = pv p ∧ m = l) ∨ ∃ q lo' hi', s = pv q ∧ BZ w lo' hi' q m ∧ (hi' ≤ lo ∨ hi ≤ lo')
/-- A row of such. -/
structure OthL (w : World) (lo hi p : Nat) (l : List Bool) (vs : List Value) (ms : List (List Bool)) : Prop where
  len : vs.length = ms.length
  each : ∀ j, j < ms.length → ∃ s, vs[j]? = some s ∧ OthX w lo hi p l s (ms.getD j [])

/-- Between two rounds of change. -/
structure ChK (w W3 : World) (p nb : Nat) (A : Option Addr) (c : Nat) (l l' : List Bool) (d : Nat) (j : Nat) (W : World) : Prop where
  nbox : W.heap[nb]? = some (.cells #[.int .i64 (d : Int)] 3 (0, 0))
  row : W.ownsRow 0 56 1 (.slice A (nw l.length) c) (nw l.length) (us (wmix l l' j))
  t : Turns (fun k => k = nb ∨ ob A = some k) W3 W
section
variable {w W3 X Y : World} {p nb c d j : Nat} {A : Option Addr} {l l' : List Bool}
theorem ChK.newer {r : Nat} (h : ChK w W3 p nb A c l l' d j X) (hA : ∀ k, ob A = some k → k < W3.heap.size) (hn : nb < W3.heap.size) (hr1 : W3.heap.size ≤ r) (hg : X.grownBy Y (some r)) : ChK w W3 p nb A c l l' d j Y :=
  ⟨(hg.block _ (Array.getElem?_eq_some_iff.1 h.nbox).1 (fun e => by injection e with e; omega)).trans h.nbox,
   own_keep h.row fun k hk => hg.block _ (own_lt h.row k hk) (fun e => by injection e with e; rw [ob_eq] at hk; have := hA k hk; omega), h.t.newer hg hr1⟩
theorem ChK.drewN (h : ChK w W3 p nb A c l l' d j X) (q : Nat) : ChK w W3 p nb A c l l' d j (X.drewN q) := ⟨h.nbox, own_keep h.row fun _ _ => rfl, h.t.drewN q⟩
theorem ChK.word (h : ChK w W3 p nb A c l l' d j X) {i : Nat} (hi : j ≤ i) (hn : i < nw l.length) : ∃ g, A = some ⟨g, 0, none⟩ ∧ X.cell? ⟨g, i, none⟩ = some (.int .u64 (wl l i : Int)) ∧ X.frozen? ⟨g, i, none⟩ = false := by
  obtain ⟨g, cap, hv, _, hlt⟩ := h.row.form (by omega)
  have hA : A = some ⟨g, 0, none⟩ := by injection hv
  subst hA
  refine ⟨g, rfl, ?_, h.row.frozenAt i⟩
  have := h.row.cells (g := g) rfl i _ (wmix_get l l' hn hi)
  rwa [add_plain, Nat.zero_add] at this
/-- Behind the two stores of a round. -/
theorem ChK.step {g : Nat} (h : ChK w W3 p nb (some ⟨g, 0, none⟩) c l l' d j X) (hg : g ≠ nb) (hj : j < nw l.length) (d2 : Nat) : ChK w W3 p nb (some ⟨g, 0, none⟩) c l l' d2 (j + 1) ((X.setCell ⟨nb, 0, none⟩ (.int .i64 (d2 : Int))).setCell ⟨g, j, none⟩ (.int .u64 (wl l' j : Int))) := by
  have h1 := own_keep (w' := X.setCell ⟨nb, 0, none⟩ (.int .i64 (d2 : Int))) h.row fun k hk => heap_setCell_other _ _ _ _ (by have : g = k := Option.some.inj hk; show k ≠ nb; omega)
  have h2 := (h1.stored j (.int .u64 (wl l' j : Int))).1
  rw [← us_set, wmix_set l l' hj] at h2
  refine ⟨?_, h2, ?_⟩
  · refine (heap_setCell_other _ _ _ _ (by show nb ≠ g; omega)).trans ?_
    rw [heap_setCell_same _ nb 0 _ _ _ h.nbox]; rfl
  · exact (h.t.trans_ ((turns_setCell X nb 0 _).mono fun k e => .inl e)).trans_ ((turns_setCell _ g j _).mono fun k e => .inr (by rw [e]; rfl))
end

/-- The word of a set that reads so. -/
theorem pword_raw (q n c p x g : Nat) (w : World) (c1 : w.cell? ⟨q, 1, none⟩ = some (.slice (some ⟨g, 0, none⟩) n c)) (hk : p < n) (hc : w.cell? ⟨g, p, none⟩ = some (.int .u64 (x : Int))) : Calls Tryd.prog 43 #[pv q, .int .i64 (p : Int)] w fun e w' => e = .returned (.int .u64 (x : Int)) ∧ w' = w := by
  go_enter Tryd.func43, Tryd.ntmps43
  go_wp2
  go_ret
  exact ⟨rfl, rfl⟩

/-- What does tells of two words. -/
def DoesW (how : Nat) (f : FuncId) : Prop := ∀ (x y : Nat) (W : World), x < 18446744073709551616 → y < 18446744073709551616 → Calls Tryd.prog f #[.int .u64 (x : Int), .int .u64 (y : Int)] W fun e w' => e = .returned (.int .u64 (gW how x y : Int)) ∧ w' = W
theorem join_does : DoesW 0 45 := by
  intro x y W hx hy
  have hb : bits BinOp.or IntKind.u64 (x : Int) (y : Int) = ((gW 0 x y : Nat) : Int) := bits_or_u64_nat x y hx hy
  generalize (gW 0 x y : Nat) = z at *
  go_enter Tryd.func45, Tryd.ntmps45
  go_wp2
  go_ret
  exact ⟨rfl, rfl⟩
theorem meet_does : DoesW 1 46 := by
  intro x y W hx hy
  have hb : bits BinOp.and IntKind.u64 (x : Int) (y : Int) = ((gW 1 x y : Nat) : Int) := bits_and_u64_nat x y hx hy
  generalize (gW 1 x y : Nat) = z at *
  go_enter Tryd.func46, Tryd.ntmps46
  go_wp2
  go_ret
  exact ⟨rfl, rfl⟩
theorem less_does : DoesW 2 47 := by
  intro x y W hx hy
  have hb : bits BinOp.andNot IntKind.u64 (x : Int) (y : Int) = ((gW 2 x y : Nat) : Int) := bits_not_u64_nat x y hx hy
  generalize (gW 2 x y : Nat) = z at *
  go_enter Tryd.func47, Tryd.ntmps47
  go_wp2
  go_ret
  exact ⟨rfl, rfl⟩

end Go.Proofs.YtiembenkdldklaaDoor
