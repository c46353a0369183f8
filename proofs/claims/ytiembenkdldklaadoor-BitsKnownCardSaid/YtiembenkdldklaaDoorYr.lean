/-
  Layer 8: the program's Len.
-/
import Derived.Test.YtiembenkdldklaaDoorYp
import Derived.Test.YtiembenkdldklaaDoorYq
import Derived.Test.YtiembenkdldklaaDoorYf
import Derived.Deep.RegionHeld3
namespace Go.Proofs.YtiembenkdldklaaDoor
open Go Go.RowKit Go.Shelf
set_option linter.unusedVariables false

attribute [local go_sem] Oper.semAt_some

theorem allK_word (l : List Bool) (j : Nat) : allK l (64 * (j + 1)) = allK l (64 * j) ++ (bl (wl l j)).map (64 * j + ·) := by
  unfold allK bl
  rw [show 64 * (j + 1) = 64 * j + 64 by omega, List.range_add, List.filter_append, List.filter_map]
  congr 2
  apply List.filter_congr
  intro i hi
  simp only [List.mem_range] at hi
  simp only [Function.comp_apply, wl, wd_bit, hi, decide_true, Bool.true_and]
theorem allK_ge (l : List Bool) {k : Nat} (h : l.length ≤ k) : allK l k = allB l := by
  obtain ⟨d, rfl⟩ : ∃ d, k = l.length + d := ⟨k - l.length, by omega⟩
  unfold allB allK
  rw [List.range_add, List.filter_append]
  have : ((List.range d).map (l.length + ·)).filter (bt l) = [] := List.filter_eq_nil_iff.2 fun x hx => by
    obtain ⟨y, _, rfl⟩ := List.mem_map.1 hx
    rw [bt_ge (by omega)]; simp
  rw [this, List.append_nil]
theorem allK_nw (l : List Bool) : allK l (64 * nw l.length) = allB l := allK_ge l (by unfold nw; omega)
theorem bl_len (x : Nat) : (bl x).length ≤ 64 := by
  unfold bl; have := List.length_filter_le (fun j => x.testBit j) (List.range 64); simpa using this

/-- A step that writes old blocks of S alone goes on over one that writes a newer block. -/
theorem Turns.newer {S : Nat → Prop} {w X Y : World} {r : Nat} (h : Turns S w X) (hg : X.grownBy Y (some r)) (hr : w.heap.size ≤ r) : Turns S w Y :=
  h.trans (Turns.grown (S := fun k => k = r) hg fun k hk => .inl (by injection hk with hk; exact hk.symm)) fun k e => .inr (by rw [e]; exact hr)
theorem BZ.at_turns {S : Nat → Prop} {w X : World} {lo hi p : Nat} {l : List Bool} (h : BZ w lo hi p l) (t : Turns S w X) (hd : ∀ k, lo ≤ k → k < hi → ¬ S k) : BZ X lo hi p l := h.turns t hd

/-- What the walk reads lies as it lay. -/
theorem it_of {W : World} {p c b1 b2 fr : Nat} {F : Int} {A : Option Addr} {l : List Bool} (hF : F = (fr : Int)) (h : BS W p A c l) (h1 : W.heap[b1]? = some (.cells #[pv p] 26 (0, 0))) (h2 : W.heap[b2]? = some (.cells #[.int .i64 F] 3 (0, 0))) (j : Nat) : It b1 b2 p (nw l.length) fr A c (wl l) j W :=
  ⟨cell_of_row _ _ 0 _ _ _ h1, by rw [← hF]; exact cell_of_row _ _ 0 _ _ _ h2, h.c1, fun i _ hi => by obtain ⟨g, e, hc, _⟩ := h.word hi; exact ⟨g, e, hc⟩⟩

/-- The set, and the two boxes of the walk over its words, in the world behind words. -/
theorem words_world {w W : World} {p c : Nat} (F : Int) {A : Option Addr} {l : List Bool} (h : BS w p A c l) (hb : Below w.heap.size w W) (hW : w.heap.size ≤ W.heap.size) :
    ∃ W3, W3 = (W.alloc (.cells #[pv p] 26)).alloc (.cells #[.int .i64 F] 3) ∧ W3.heap.size = W.heap.size + 2 ∧ Below W.heap.size W W3 ∧ BS W3 p A c l ∧
      W3.heap[W.heap.size]? = some (.cells #[pv p] 26 (0, 0)) ∧ W3.heap[W.heap.size + 1]? = some (.cells #[.int .i64 F] 3 (0, 0)) := by
  have hb1 := below_new W (.cells #[pv p] 26)
  have hb2 := hb1.alloc hb1.size (.cells #[.int .i64 F] 3)
  refine ⟨_, rfl, by simp, hb2, ?_, (heap_alloc_old _ _ (by simp)).trans (heap_alloc_new W _), ?_⟩
  · refine h.keep ((hb2.block _ (by have := h.lt; omega)).trans (hb.block _ h.lt)) fun k hk => (hb2.block _ (by have := h.row_lt hk; omega)).trans (hb.block _ (h.row_lt hk))
  · have := heap_alloc_new (W.alloc (.cells #[pv p] 26)) (.cells #[.int .i64 F] 3)
    rwa [World.size_alloc] at this

set_option maxRecDepth 100000 in
set_option maxHeartbeats 2000000 in
theorem plen_any (lo hi p : Nat) (l : List Bool) (w : World) (h : BZ w lo hi p l) : Calls Tryd.prog 13 #[pv p] w fun e w' => e = .returned (.int .i64 ((allB l).length : Int)) ∧ Below w.heap.size w w' := by
  obtain ⟨A, c, h, _⟩ := h
  have hb0 := below_new w (.cells #[.int .i64 0] 3)
  have x0 := heap_alloc_new w (.cells #[.int .i64 0] 3)
  obtain ⟨W3, hW3, hs3, hb3, hS3, x1, x2⟩ := words_world 0 h hb0 (by simp)
  simp only [World.size_alloc] at hs3 x1 x2 hb3
  have y0 : W3.heap[w.heap.size]? = some (.cells #[.int .i64 0] 3 (0, 0)) := (hb3.block _ (by omega)).trans x0
  have hbW : Below w.heap.size w W3 := hb0.trans (hb3.mono (by omega))
  have hlt := h.lt
  have h6 := h.le
  have hcap := hS3.cap
  have hrl := fun k (hk : ob A = some k) => h.row_lt hk
  have hWC := fun W => words_any (pv p) 0 (.inr ⟨p, rfl⟩) W
  have HW3 := Lib_hid hW3
  clear hW3 x0 hb0
  refine (callsIn_wide (n := 3)).1 (callsIn_of_wp_marks Tryd.func13 rfl trivial ?_ rfl)
  simp only [Tryd.ntmps13, List.size_toArray, List.length_cons, List.length_nil, Nat.reduceAdd, Nat.reduceSub, Array.replicate_succ, Array.replicate_zero, List.push_toArray, List.append_toArray, List.nil_append, List.cons_append]
  gi_wp2
  refine ⟨trivial, (callsIn_wide.2 (hWC _)).mono ?_⟩
  rintro e w1 ⟨rfl, rfl⟩
  gi_wp2
  rw [← HW3.out]
  have hn6 : nw l.length ≤ 1000000 := by unfold nw; omega
  refine range_words (m := 3) (b1 := w.heap.size + 1) (b2 := w.heap.size + 1 + 1) (p := p) (n := nw l.length) (fr := 0) (c := c) (A := A) (ws := wl l) rfl rfl hn6 (by omega) hcap
    (fun j W => W.heap[w.heap.size]? = some (.cells #[.int .i64 ((allK l (64 * j)).length : Int)] 3 (0, 0)) ∧ Turns (fun k => k = w.heap.size) W3 W) (fun _ _ _ => False) ?_ ?_ (fun _ _ _ _ _ h _ _ _ => h) ⟨y0, Turns.refl _ _⟩ ?_ ?_ (fun _ _ _ _ _ h _ => h.elim)
  · rintro j W ⟨_, t⟩
    exact it_of rfl (hS3.keep (t.block _ (by have := hS3.lt; omega) (by omega)) fun k hk => t.block _ (hS3.row_lt hk) (by have := hrl k hk; omega)) ((t.block _ (by omega) (by omega)).trans x1) ((t.block _ (by omega) (by omega)).trans x2) j
  · rintro j X Y r ⟨h1, t⟩ hr1 hr2 hg
    exact ⟨(hg.block _ (Array.getElem?_eq_some_iff.1 h1).1 (fun e => by injection e with e; omega)).trans h1, t.newer hg hr1⟩
  · rintro j W ⟨h1, t⟩ hsz _ hj
    have hsu := allK_word l j
    have hx := wl_lt l j
    have hle := allK_len l (64 * j)
    have hbl := bl_len (wl l j)
    have hll : (allK l (64 * (j + 1))).length = (allK l (64 * j)).length + (bl (wl l j)).length := by rw [hsu]; simp
    have HLL := Lib_hid hll
    have hON := fun W => ones_any (wl l j) hx W
    have HON := Lib_hid hON
    have ht0 := t.size
    clear hsu hll hON hx h hS3 hrl y0 x1 x2
    generalize (wl l j : Nat) = x at *
    generalize (bl x).length = b at *
    generalize hal : (allK l (64 * j)).length = d at *
    have HAL := Lib_hid hal
    clear hal
    gi_wp2
    refine ⟨KeepD.refl _ _, fun w₂ hg2 => ?_⟩
    have h2 := (hg2.block _ (Array.getElem?_eq_some_iff.1 h1).1 (fun e => by injection e with e; omega)).trans h1
    have t2 := t.newer hg2 (by omega)
    have q0 := cell_of_row _ _ 0 _ _ _ h2
    have f0 := frozen_of_row _ _ 0 _ _ h2
    have hz2 := hg2.size
    have H2 := Lib_hid (And.intro h2 (And.intro t2 hz2))
    clear h1 h2 t2 t hg2
    gi_wp2
    refine wpIn_region_tail 4 (by kernel_rfl) (by kernel_rfl) (by kernel_rfl) (fun _ _ h => h) ?_
    simp only [List.take_succ_cons, List.take_zero, List.drop_succ_cons, List.drop_zero]
    repeat still_step
    still_call (HON.out _)
    repeat still_step
    refine wpStill_nil ?_
    go_wp2
    have tt : Turns (fun k => k = w.heap.size) w₂ (w₂.setCell ⟨w.heap.size, 0, none⟩ (.int .i64 ((d : Int) + (b : Int)))).drew := (turns_setCell w₂ w.heap.size 0 _).drewN 1
    refine ⟨KeepD.turns tt (by omega) (by omega), ?_, H2.out.2.1.trans_ tt⟩
    show (w₂.setCell ⟨w.heap.size, 0, none⟩ (.int .i64 ((d : Int) + (b : Int)))).heap[w.heap.size]? = _
    rw [heap_setCell_same _ w.heap.size 0 _ _ _ H2.out.1, HLL.out, Int.natCast_add]
    rfl
  · rintro W ⟨h1, t⟩ hD
    rw [show max 0 (nw l.length) = nw l.length by omega, allK_nw] at h1
    have q0 := cell_of_row _ _ 0 _ _ _ h1
    have hb9 := (hbW.trans (t.below (by omega) (fun k e => by omega))).grown (putObj_grown W W3.heap.size (.deferred none)) (Nat.le_trans hbW.size t.size) (fun k hk => by injection hk with hk; omega)
    gi_wp2
    refine ⟨by simp, .inl ⟨_, _, rfl, run_takeDeferred hD, ?_⟩⟩
    exact ⟨_, results_tmp rfl _ _ _, rfl, hb9⟩

end Go.Proofs.YtiembenkdldklaaDoor
